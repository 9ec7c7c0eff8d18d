/-
  Rd: I J L N O P, in one text.
-/
import Derived.Test.YtlkieeindnpidaaDoorD
import Derived.Test.YtlkieeindnpidaaDoorE
import Derived.Deep.DeepCutAuto
import Derived.LoopTactic
namespace Go.Proofs.YtlkieeindnpidaaDoor
open Go.RowKit Tt Hu Hu.Hf

/-- What a reading holds: what was not read yet, the table, what was read, its Size. -/
structure RS where
  left : List UInt8
  m : Nat
  M : List Hd
  out : List Hn
  size : Nat
/-- The blocks of the errors. -/
def globs : List Nat := [3, 2, 4, 6, 0, 5, 1]
theorem Env.lt {w : World} {E : Nat → Value} (h : Env w E) : ∀ g ∈ globs, g < w.heap.size := by
  intro g hg
  simp only [globs, List.mem_cons, List.not_mem_nil, or_false] at hg
  rcases hg with rfl | rfl | rfl | rfl | rfl | rfl | rfl
  · exact Hu.cell_lt h.c101
  · exact Hu.cell_lt h.c102
  · exact Hu.cell_lt h.c107
  · exact Hu.cell_lt h.c108
  · exact Hu.cell_lt h.c109
  · exact Hu.cell_lt h.c110
  · exact Hu.cell_lt h.c115
theorem Env.of_blocks {w w' : World} {E : Nat → Value} (h : Env w E) (hb : ∀ g ∈ globs, w'.heap[g]? = w.heap[g]?) : Env w' E := by
  have hk : ∀ g v, g ∈ globs → w.cell? ⟨g, 0, none⟩ = some v → w'.cell? ⟨g, 0, none⟩ = some v := fun g v hg hc => (World.cell?_of_block (a := ⟨g, 0, none⟩) (hb g hg)).trans hc
  exact ⟨hk _ _ (by simp [globs]) h.c101, hk _ _ (by simp [globs]) h.c102, hk _ _ (by simp [globs]) h.c107, hk _ _ (by simp [globs]) h.c108, hk _ _ (by simp [globs]) h.c109, hk _ _ (by simp [globs]) h.c110, hk _ _ (by simp [globs]) h.c115⟩
theorem Env.kq {w w' : World} {E : Nat → Value} {A r b : Nat} (h : Env w E) (hg : ∀ g ∈ globs, g < A) (hA : A < r) (hb : A < b) (hk : Kq r A b w w') : Env w' E :=
  h.of_blocks fun g hm => by
    have := hg g hm
    exact hk.block g (by omega) (by omega) (by omega)
/-- A reading at block r, its table at block A. -/
structure Rg' (w : World) (r A limit : Nat) (s : RS) : Prop where
  c0 : ∃ la ln lc, w.cell? ⟨r, 0, none⟩ = some (.slice la ln lc) ∧ Sl w la ln lc s.left ∧ ∀ p, la = some p → 0 < ln → p.block < r ∧ p.block ≠ A
  c1 : w.cell? ⟨r, 1, none⟩ = some (.pointer (some ⟨A, 0, none⟩))
  c2 : w.cell? ⟨r, 2, none⟩ = some (.int .i64 (limit : Int))
  c3 : ∃ v, w.cell? ⟨r, 3, none⟩ = some v ∧ NOwn w (r + 1) v s.out
  c4 : w.cell? ⟨r, 4, none⟩ = some (.int .i64 (s.size : Int))
  z : ∀ i, w.frozen? ⟨r, i, none⟩ = false
  has : Has w A s.m s.M
  ne : A < r
  m : s.m ≤ 4096
  lim : limit ≤ 4096
  len : s.left.length ≤ 1000000
  sz : s.size ≤ 16384
  ol : s.out.length * 32 ≤ s.size
  glob : ∀ g ∈ globs, g < A
/-- It has given up with that fault. -/
def Gave (E : Nat → Value) (c : Nat) (e : Ending) : Prop := e = .panicked [{ v := .iface 110 (.agg #[E c]), recovered := false }]
theorem giveUp_any (ty : TypeId) (p : Value) (w : World) : Calls Tryd.prog 103 #[.iface ty p] w fun e w' => e = .panicked [{ v := .iface 110 (.agg #[.iface ty p]), recovered := false }] ∧ w = w' := by
  go_enter Tryd.func103, Tryd.ntmps103
  go_wp2
  exact ⟨rfl, rfl, rfl⟩
/-- Of what stood below the reading only its table may have turned. -/
theorem Rg'.below {w w' : World} {r A limit : Nat} {s : RS} (h : Rg' w r A limit s) (hb : Below w.heap.size w w') : Rg' w' r A limit s := by
  obtain ⟨la, ln, lc, a0, a1, a2⟩ := h.c0
  obtain ⟨v, a3, a4⟩ := h.c3
  exact ⟨⟨la, ln, lc, (hb.cell (Hu.cell_lt a0)).trans a0, a1.kept hb, a2⟩, (hb.cell (Hu.cell_lt h.c1)).trans h.c1, (hb.cell (Hu.cell_lt h.c2)).trans h.c2, ⟨v, (hb.cell (Hu.cell_lt a3)).trans a3, a4.kept hb⟩, (hb.cell (Hu.cell_lt h.c4)).trans h.c4,
    fun i => (hb.frozen (p := ⟨r, i, none⟩) (show r < w.heap.size from Hu.cell_lt h.c1)).trans (h.z i), h.has.below hb, h.ne, h.m, h.lim, h.len, h.sz, h.ol, h.glob⟩
theorem Rg'.lt {w : World} {r A limit : Nat} {s : RS} (h : Rg' w r A limit s) : r < w.heap.size := Hu.cell_lt h.c1
theorem sl_kp {w w' : World} {b : Nat} {a : Option Addr} {n c : Nat} {l : List UInt8} (h : Sl w a n c l) (hk : Kp b w w') (hne : ∀ p, a = some p → 0 < n → p.block ≠ b) : Sl w' a n c l :=
  ⟨h.len, h.le, h.max, h.nil, fun i hi => by
    obtain ⟨b', o, e, hc⟩ := h.row i hi
    have hn := hne _ e (by have := h.len; omega)
    exact ⟨b', o, e, (World.cell?_of_block (a := ⟨b', o + i, none⟩) (hk.block b' (Hu.cell_lt hc) hn)).trans hc⟩⟩
/-- What is left, stored. -/
theorem Rg'.setLeft {w : World} {r A limit : Nat} {s : RS} (h : Rg' w r A limit s) (la : Option Addr) (ln lc : Nat) (l : List UInt8) (hs : Sl w la ln lc l) (hne : ∀ p, la = some p → 0 < ln → p.block < r ∧ p.block ≠ A) (hl : l.length ≤ 1000000) :
    Rg' (w.setCell ⟨r, 0, none⟩ (.slice la ln lc)) r A limit { s with left := l } := by
  obtain ⟨la0, ln0, lc0, a0, _, _⟩ := h.c0
  obtain ⟨v, a3, a4⟩ := h.c3
  have hne' := h.ne
  refine ⟨⟨la, ln, lc, cell_setS _ _ _ _ _ a0, sl_kp hs ((Kp.refl r w).set 0 _) (fun p hp h0 => by have := hne p hp h0; omega), hne⟩, ?_, ?_, ⟨v, ?_, a4.kp ((Kp.refl r w).set 0 _) (by omega)⟩, ?_, fun i => by rw [World.frozen?_setCell]; exact h.z i, h.has.kp ((Kp.refl r w).set 0 _) (by omega), h.ne, h.m, h.lim, hl, h.sz, h.ol, h.glob⟩
  · rw [cell_setN _ _ _ _ _ (by omega)]; exact h.c1
  · rw [cell_setN _ _ _ _ _ (by omega)]; exact h.c2
  · rw [cell_setN _ _ _ _ _ (by omega)]; exact a3
  · rw [cell_setN _ _ _ _ _ (by omega)]; exact h.c4
theorem part_ne {la : Option Addr} {ln lc k r A : Nat} (h : ∀ p, la = some p → 0 < ln → p.block < r ∧ p.block ≠ A) : ∀ p, Hu.partAt la lc k = some p → 0 < ln - k → p.block < r ∧ p.block ≠ A := by
  intro p hp h0
  unfold Hu.partAt at hp
  split at hp
  · exact h p hp (by omega)
  · cases la with
    | none => simp at hp
    | some q =>
      simp at hp
      have h2 := h q rfl (by omega)
      have e : (q.add k).block = q.block := by unfold Addr.add; split <;> rfl
      rw [← hp, e]
      exact h2
/-- The list's slice. -/
def lv (r : Nat) (w : World) : Value := (w.cell? ⟨r, 3, none⟩).getD undef
/-- Of what was there only blocks A and r and the list's row may have turned. -/
structure Kr (r A : Nat) (w w' : World) : Prop where
  os : w'.os = w.os
  tape : w'.tape = w.tape
  output : w'.output = w.output
  size : w.heap.size ≤ w'.heap.size
  block : ∀ k, k < w.heap.size → k ≠ A → k ≠ r → (lv r w).ownBlock ≠ some k → w'.heap[k]? = w.heap[k]? ∧ (lv r w').ownBlock ≠ some k
theorem Kr.trans {r A : Nat} {x y z : World} (h : Kr r A x y) (k : Kr r A y z) : Kr r A x z :=
  ⟨k.os.trans h.os, k.tape.trans h.tape, k.output.trans h.output, Nat.le_trans h.size k.size, fun i hi h1 h2 h3 => by
    obtain ⟨e1, e2⟩ := h.block i hi h1 h2 h3
    obtain ⟨e3, e4⟩ := k.block i (Nat.lt_of_lt_of_le hi h.size) h1 h2 e2
    exact ⟨e3.trans e1, e4⟩⟩
theorem Kr.of_below {r A : Nat} {w w' : World} (h : Below w.heap.size w w') (hr : r < w.heap.size) : Kr r A w w' :=
  ⟨h.os, h.tape, h.output, h.size, fun k hk _ _ hv => ⟨h.block k hk, by
    have e : lv r w' = lv r w := by unfold lv; rw [h.cell (p := ⟨r, 3, none⟩) hr]
    rw [e]; exact hv⟩⟩
theorem Kr.set {r A : Nat} (w : World) (i : Nat) (v : Value) (hi : i ≠ 3) : Kr r A w (w.setCell ⟨r, i, none⟩ v) :=
  ⟨rfl, rfl, rfl, by simp [World.setCell], fun k _ _ h2 hv => ⟨Below.heap_setCell _ _ _ _ h2, by
    have e : lv r (w.setCell ⟨r, i, none⟩ v) = lv r w := by unfold lv; rw [cell_setN _ _ _ _ _ hi]
    rw [e]; exact hv⟩⟩
theorem Kr.of_kp {r A : Nat} {w w' : World} (h : Kp A w w') (hne : A ≠ r) (hr : r < w.heap.size) : Kr r A w w' :=
  ⟨h.os, h.tape, h.output, h.size, fun k hk h1 _ hv => ⟨h.block k hk h1, by
    have e : lv r w' = lv r w := by unfold lv; rw [World.cell?_of_block (a := ⟨r, 3, none⟩) (h.block r hr (Ne.symm hne))]
    rw [e]; exact hv⟩⟩
theorem Rg'.own_ne {w : World} {r A limit : Nat} {s : RS} (h : Rg' w r A limit s) {k : Nat} (hk : k ≤ r ∨ w.heap.size ≤ k) : (lv r w).ownBlock ≠ some k := by
  obtain ⟨v, a3, a4⟩ := h.c3
  unfold lv
  rw [a3]
  intro e
  have := World.ownsRow.lt a4 k e
  omega
theorem Kr.kq {r A limit : Nat} {w w' : World} {s : RS} (h : Kr r A w w') (hg : Rg' w r A limit s) : Kq r A r w w' :=
  ⟨h.os, h.tape, h.output, h.size, fun k hk h1 h2 => (h.block k (by have := hg.lt; omega) h1 h2 (hg.own_ne (Or.inl (by omega)))).1⟩
/-- A block that stands above the reading, but not the list's, stays. -/
theorem Kr.box {r A : Nat} {w w' : World} (h : Kr r A w w') {k : Nat} (hk : k < w.heap.size) (h1 : A < k) (h2 : r < k) (hv : (lv r w).ownBlock ≠ some k) : w'.heap[k]? = w.heap[k]? ∧ (lv r w').ownBlock ≠ some k := h.block k hk (by omega) (by omega) hv
/-- What a reading's method answers: a value, and what it holds then; or it gives up. -/
def Step (E : Nat → Value) (r A limit : Nat) {α : Type} (val : α → Value) (x : Res (α × RS)) (w : World) (e : Ending) (w' : World) : Prop := Kr r A w w' ∧ match x with
  | .ok (y, s') => e = .returned (val y) ∧ Rg' w' r A limit s'
  | .er c => Gave E c e
/-- A number's step. -/
def numS (bits : Nat) (s : RS) : Res (Nat × RS) := match getInt bits s.left with
  | .er c => .er c
  | .ok (n, k) => .ok (n, { s with left := s.left.drop k })
def textS (s : RS) : Res (ByteArray × RS) := match getText s.left with
  | .er c => .er c
  | .ok (t, k) => .ok (t, { s with left := s.left.drop k })

set_option maxRecDepth 100000 in
set_option maxHeartbeats 2000000 in
theorem number_any (E : Nat → Value) (r A limit : Nat) (s : RS) (bits : Nat) (hb1 : 1 ≤ bits) (hb8 : bits ≤ 8) (w : World) (h : Rg' w r A limit s) (hE : Env w E) (hX : Errs E) :
    Calls Tryd.prog 85 #[.pointer (some ⟨r, 0, none⟩), .int .i64 (bits : Int)] w (Step E r A limit (fun n : Nat => .int .i64 (n : Int)) (numS bits s) w) := by
  obtain ⟨la, ln, lc, a0, a1, a2⟩ := h.c0
  have hlen := a1.len
  have hcn := a1.le
  have hcm := a1.max
  unfold maxLen at hcm
  have hl6 := h.len
  have hlt := h.lt
  have HI := Lib.hid (int_any E bits la ln lc s.left w hb1 hb8 a1 hE)
  have HR := Lib.hid h
  have HS := Lib.hid a1
  have HN := Lib.hid a2
  cases hi : getInt bits s.left with
  | er d =>
    have HU : Hid (numS bits s = .er d) := Lib.hid (by unfold numS; rw [hi])
    rw [hi] at HI
    obtain ⟨ty, p, hx⟩ := hX d
    have HX := Lib.hid hx
    clear hX hi hx h a1 a2 hE
    go_enter Tryd.func85, Tryd.ntmps85
    go_wp2_with fail
    refine HI.out.mono ?_
    rintro e w1 ⟨rfl, hb1⟩
    simp only [intV, HX.out]
    go_wp2_with fail
    refine (giveUp_any ty p _).mono ?_
    rintro e w' ⟨rfl, rfl⟩
    go_wp2_with fail
    exact ⟨rfl, Kr.of_below hb1 hlt, by rw [HU.out]; show _ = _; rw [HX.out]⟩
  | ok q =>
    obtain ⟨n, k⟩ := q
    rw [hi] at HI
    have HU : Hid (numS bits s = .ok (n, { s with left := s.left.drop k })) := Lib.hid (by unfold numS; rw [hi])
    have hk := getInt_ok hb8 hi
    obtain ⟨hk1, hk2, hk3, hk4⟩ := hk
    have hkn : k ≤ ln := by omega
    have hsl := fun W => slice_l la ln lc (k : Int) (by omega) (by omega) (ln - k) (lc - k) (by omega) (by omega) k (by omega) W
    have hz := fun W (hW : Below w.heap.size w W) => (HR.out.below hW).z 0
    have HZ := Lib.hid hz
    clear hX hi h a1 a2 hE hz
    go_enter Tryd.func85, Tryd.ntmps85
    go_wp2_with fail
    refine HI.out.mono ?_
    rintro e w1 ⟨rfl, hb1⟩
    simp only [intV]
    have b0 := (hb1.cell (p := ⟨r, 0, none⟩) hlt).trans a0
    have hz1 := HZ.out w1 hb1
    have HR1 := Lib.hid (HR.out.below hb1)
    have HS1 := Lib.hid (HS.out.kept hb1)
    clear HI a0
    go_wp2
    go_ret
    refine ⟨(Kr.of_below hb1 hlt).trans (Kr.set w1 0 _ (by omega)), ?_⟩
    rw [HU.out]
    refine ⟨rfl, HR1.out.setLeft _ _ _ _ (sl_part HS1.out k (ln - k) (by omega) _ ?_) (part_ne HN.out) (by simp; omega)⟩
    rw [List.take_of_length_le (by simp; omega)]
set_option maxRecDepth 100000 in
set_option maxHeartbeats 2000000 in
theorem rtext_any (E : Nat → Value) (r A limit : Nat) (s : RS) (w : World) (h : Rg' w r A limit s) (hE : Env w E) (hX : Errs E) :
    Calls Tryd.prog 119 #[.pointer (some ⟨r, 0, none⟩)] w (Step E r A limit (fun t : ByteArray => .string t) (textS s) w) := by
  obtain ⟨la, ln, lc, a0, a1, a2⟩ := h.c0
  have hlen := a1.len
  have hcn := a1.le
  have hcm := a1.max
  unfold maxLen at hcm
  have hl6 := h.len
  have hlt := h.lt
  have HI := Lib.hid (text_any E la ln lc s.left w a1 (by omega) hE hX)
  have HR := Lib.hid h
  have HS := Lib.hid a1
  have HN := Lib.hid a2
  cases hi : getText s.left with
  | er d =>
    have HU : Hid (textS s = .er d) := Lib.hid (by unfold textS; rw [hi])
    rw [hi] at HI
    obtain ⟨ty, p, hx⟩ := hX d
    have HX := Lib.hid hx
    clear hX hi hx h a1 a2 hE
    go_enter Tryd.func119, Tryd.ntmps119
    go_wp2_with fail
    refine HI.out.mono ?_
    rintro e w1 ⟨rfl, hb1⟩
    simp only [textV, HX.out]
    go_wp2_with fail
    refine (giveUp_any ty p _).mono ?_
    rintro e w' ⟨rfl, rfl⟩
    go_wp2_with fail
    exact ⟨rfl, Kr.of_below hb1 hlt, by rw [HU.out]; show _ = _; rw [HX.out]⟩
  | ok q =>
    obtain ⟨n, k⟩ := q
    rw [hi] at HI
    have HU : Hid (textS s = .ok (n, { s with left := s.left.drop k })) := Lib.hid (by unfold textS; rw [hi])
    have hk := getText_ok hi
    obtain ⟨hk1, hk2⟩ := hk
    have hkn : k ≤ ln := by omega
    have hsl := fun W => slice_l la ln lc (k : Int) (by omega) (by omega) (ln - k) (lc - k) (by omega) (by omega) k (by omega) W
    have hz := fun W (hW : Below w.heap.size w W) => (HR.out.below hW).z 0
    have HZ := Lib.hid hz
    clear hX hi h a1 a2 hE hz
    go_enter Tryd.func119, Tryd.ntmps119
    go_wp2_with fail
    refine HI.out.mono ?_
    rintro e w1 ⟨rfl, hb1⟩
    simp only [textV]
    have b0 := (hb1.cell (p := ⟨r, 0, none⟩) hlt).trans a0
    have hz1 := HZ.out w1 hb1
    have HR1 := Lib.hid (HR.out.below hb1)
    have HS1 := Lib.hid (HS.out.kept hb1)
    clear HI a0
    go_wp2
    go_ret
    refine ⟨(Kr.of_below hb1 hlt).trans (Kr.set w1 0 _ (by omega)), ?_⟩
    rw [HU.out]
    refine ⟨rfl, HR1.out.setLeft _ _ _ _ (sl_part HS1.out k (ln - k) (by omega) _ ?_) (part_ne HN.out) (by simp; omega)⟩
    rw [List.take_of_length_le (by simp; omega)]
end Go.Proofs.YtlkieeindnpidaaDoor

namespace Go.Proofs.YtlkieeindnpidaaDoor
open Go.RowKit Tt Hu Hu.Hf

def headS (n : Nat) (s : RS) : Res (Hd × RS) := match getM s.M (n : Int) with
  | none => .er 108
  | some h => .ok (h, s)
def namedS (n : Nat) (s : RS) : Res (Hd × RS) :=
  if n = 0 then match textS s with
    | .er c => .er c
    | .ok (t, s1) => match textS s1 with
      | .er c => .er c
      | .ok (v, s2) => .ok ((t, v), s2)
  else match getM s.M (n : Int) with
    | none => .er 108
    | some h => match textS s with
      | .er c => .er c
      | .ok (v, s1) => .ok ((h.1, v), s1)
def takeS (h : Hn) (s : RS) : Res (Unit × RS) := if 16384 < s.size + sizeH h.1 then .er 110 else .ok ((), { s with out := s.out ++ [h], size := s.size + sizeH h.1 })

set_option maxRecDepth 100000 in
set_option maxHeartbeats 2000000 in
theorem header_any (E : Nat → Value) (r A limit : Nat) (s : RS) (n : Nat) (hn : n ≤ 2147483647) (w : World) (h : Rg' w r A limit s) (hE : Env w E) (hX : Errs E) :
    Calls Tryd.prog 113 #[.pointer (some ⟨r, 0, none⟩), .int .i64 (n : Int)] w (Step E r A limit (fun h : Hd => hdV h) (headS n s) w) := by
  have hb0 : Below w.heap.size w (w.alloc (.cells #[.string ⟨#[]⟩, .string ⟨#[]⟩, .bool false] 77)) := (Below.refl _ w).alloc (Nat.le_refl _) _
  have HG := Lib.hid (has_get (h.has.below hb0) (n : Int) (by omega))
  have h0 := h.below hb0
  have c1 := h.c1
  have hlt := h.lt
  have HR := Lib.hid h
  have HE := Lib.hid hE
  have hne : ¬ r = w.heap.size := by omega
  have hne' : ¬ w.heap.size = r := by omega
  have hc1 := h0.c1
  clear h hE
  cases hg : getM s.M (n : Int) with
  | none =>
    have HU : Hid (headS n s = .er 108) := Lib.hid (by unfold headS; rw [hg])
    rw [hg] at HG
    simp only [Option.getD_none, Option.isSome_none] at HG
    obtain ⟨ty, p, hx⟩ := hX 108
    have HX := Lib.hid hx
    clear hX hx hg h0
    go_enter Tryd.func113, Tryd.ntmps113
    go_wp2_with fail
    refine HG.out.mono ?_
    rintro e w1 ⟨rfl, hb1⟩
    have hB1 := hb0.trans (hb1.mono (by simp))
    have hcE := (HE.out.kept hB1).c108
    rw [HX.out] at hcE
    have hgl := Hu.cell_lt hcE
    clear HG
    go_wp2_with fail
    refine (giveUp_any ty p _).mono ?_
    rintro e w' ⟨rfl, rfl⟩
    go_wp2_with fail
    exact ⟨rfl, Kr.of_below (hB1.alloc hB1.size _) hlt, by rw [HU.out]; show _ = _; rw [HX.out]⟩
  | some g =>
    have HU : Hid (headS n s = .ok (g, s)) := Lib.hid (by unfold headS; rw [hg])
    rw [hg] at HG
    simp only [Option.getD_some, Option.isSome_some] at HG
    have HP : Hid (∀ (w1 : World), Below (w.alloc (.cells #[.string ⟨#[]⟩, .string ⟨#[]⟩, .bool false] 77)).heap.size (w.alloc (.cells #[.string ⟨#[]⟩, .string ⟨#[]⟩, .bool false] 77)) w1 →
        w1.cell? ⟨w.heap.size, 0, none⟩ = some (.string ⟨#[]⟩) ∧ w1.cell? ⟨w.heap.size, 1, none⟩ = some (.string ⟨#[]⟩) ∧ w1.cell? ⟨w.heap.size, 2, none⟩ = some (.bool false) ∧ (∀ i, w1.frozen? ⟨w.heap.size, i, none⟩ = false) ∧ w.heap.size < w1.heap.size ∧ Below w.heap.size w w1) := Lib.hid (fun w1 hb1 => by
      have hz1 := hb1.size
      simp only [World.size_alloc] at hz1
      exact ⟨(hb1.cell (p := ⟨w.heap.size, 0, none⟩) (by simp)).trans (by simp), (hb1.cell (p := ⟨w.heap.size, 1, none⟩) (by simp)).trans (by simp), (hb1.cell (p := ⟨w.heap.size, 2, none⟩) (by simp)).trans (by simp),
        fun i => (hb1.frozen (p := ⟨w.heap.size, i, none⟩) (by simp)).trans (by simp), by omega, hb0.trans (hb1.mono (by simp))⟩)
    clear hX hg h0
    go_enter Tryd.func113, Tryd.ntmps113
    go_wp2_with fail
    refine HG.out.mono ?_
    rintro e w1 ⟨rfl, hb1⟩
    obtain ⟨k0, k1, k2, kf, hlt1, hB⟩ := HP.out w1 hb1
    have hn1 : ¬ w.heap.size = w1.heap.size := by omega
    have hn2 : ¬ w1.heap.size = w.heap.size := by omega
    clear HG HP hb1
    go_wp2_with fail
    refine bodyPost_ret (v := hdV g) (by simp [results, Tryd.results113, go_sem, k0, k1, k2, kf, hlt1, hn1, hn2]) rfl ?_
    have hBB0 := below_box (a := .string g.1) (b := .string g.2) (c := .bool false) hB (Nat.le_refl w.heap.size)
    have hBB := hBB0.alloc hBB0.size (.cells #[.string g.1, .string g.2, .bool false] 77)
    exact ⟨Kr.of_below hBB hlt, by rw [HU.out]; exact ⟨rfl, HR.out.below hBB⟩⟩
theorem Rg'.old {w w' : World} {r A limit : Nat} {s : RS} (h : Rg' w r A limit s) (hb : Below w.heap.size w w') : Rg' w' r A limit s := h.below hb
/-- 'size' stored. -/
theorem Rg'.setSize {w : World} {r A limit : Nat} {s : RS} (h : Rg' w r A limit s) (z : Nat) (hz : z ≤ 16384) (ho : s.out.length * 32 ≤ z) : Rg' (w.setCell ⟨r, 4, none⟩ (.int .i64 (z : Int))) r A limit { s with size := z } := by
  obtain ⟨la, ln, lc, a0, a1, a2⟩ := h.c0
  obtain ⟨v, a3, a4⟩ := h.c3
  have hne' := h.ne
  refine ⟨⟨la, ln, lc, ?_, sl_kp a1 ((Kp.refl r w).set 4 _) (fun p hp h0 => by have := a2 p hp h0; omega), a2⟩, ?_, ?_, ⟨v, ?_, a4.kp ((Kp.refl r w).set 4 _) (by omega)⟩, cell_setS _ _ _ _ _ h.c4, fun i => by rw [World.frozen?_setCell]; exact h.z i, h.has.kp ((Kp.refl r w).set 4 _) (by omega), h.ne, h.m, h.lim, h.len, hz, ho, h.glob⟩
  · rw [cell_setN _ _ _ _ _ (by omega)]; exact a0
  · rw [cell_setN _ _ _ _ _ (by omega)]; exact h.c1
  · rw [cell_setN _ _ _ _ _ (by omega)]; exact h.c2
  · rw [cell_setN _ _ _ _ _ (by omega)]; exact a3
/-- 'list' stored. -/
theorem Rg'.setOut {w w1 : World} {r A limit : Nat} {s : RS} (h : Rg' w r A limit s) (hb : Below (r + 1) w w1) (v : Value) (l : List Hn) (hv : NOwn w1 (r + 1) v l) (hl : l.length * 32 ≤ s.size) : Rg' (w1.setCell ⟨r, 3, none⟩ v) r A limit { s with out := l } := by
  obtain ⟨la, ln, lc, a0, a1, a2⟩ := h.c0
  obtain ⟨v0, a3, _⟩ := h.c3
  have hne' := h.ne
  have hbr := hb.block r (by omega)
  have hbA := hb.block A (by omega)
  have hs1 : Sl w1 la ln lc s.left := ⟨a1.len, a1.le, a1.max, a1.nil, fun i hi => by
    obtain ⟨b', o, e, hc⟩ := a1.row i hi
    have hn := a2 _ e (by have := a1.len; omega)
    exact ⟨b', o, e, (World.cell?_of_block (a := ⟨b', o + i, none⟩) (hb.block b' (by have := hn.1; simp only at this; omega))).trans hc⟩⟩
  refine ⟨⟨la, ln, lc, ?_, sl_kp hs1 ((Kp.refl r w1).set 3 _) (fun p hp h0 => by have := a2 p hp h0; omega), a2⟩, ?_, ?_, ⟨v, cell_setS _ _ _ _ _ ((World.cell?_of_block hbr).trans a3), hv.kp ((Kp.refl r w1).set 3 _) (by omega)⟩, ?_, fun i => by rw [World.frozen?_setCell]; exact (World.frozen?_of_block hbr).trans (h.z i), (h.has.blk hbA).kp ((Kp.refl r w1).set 3 _) (by omega), h.ne, h.m, h.lim, h.len, h.sz, hl, h.glob⟩
  · rw [cell_setN _ _ _ _ _ (by omega)]; exact (World.cell?_of_block hbr).trans a0
  · rw [cell_setN _ _ _ _ _ (by omega)]; exact (World.cell?_of_block hbr).trans h.c1
  · rw [cell_setN _ _ _ _ _ (by omega)]; exact (World.cell?_of_block hbr).trans h.c2
  · rw [cell_setN _ _ _ _ _ (by omega)]; exact (World.cell?_of_block hbr).trans h.c4

/-- The list's row appended to, and the list stored. -/
theorem Kr.app {r A : Nat} {w w9 : World} {v v' : Value} (hr : r < w.heap.size) (h3 : w.cell? ⟨r, 3, none⟩ = some v) (hb : Below (r + 1) w w9) (hap : ∀ x, x < w.heap.size → v.ownBlock ≠ some x → w9.heap[x]? = w.heap[x]? ∧ v'.ownBlock ≠ some x) :
    Kr r A w (w9.setCell ⟨r, 3, none⟩ v') := by
  have c3 := (hb.cell (p := ⟨r, 3, none⟩) (by simp only []; omega)).trans h3
  have e0 : lv r w = v := by unfold lv; rw [h3]; rfl
  have e1 : lv r (w9.setCell ⟨r, 3, none⟩ v') = v' := by unfold lv; rw [cell_setS _ _ _ _ _ c3]; rfl
  refine ⟨hb.os, hb.tape, hb.output, by have := hb.size; simp [World.setCell]; omega, fun k hk _ h2 hv => ?_⟩
  rw [e0] at hv
  obtain ⟨f1, f2⟩ := hap k hk hv
  exact ⟨(Below.heap_setCell _ _ _ _ h2).trans f1, by rw [e1]; exact f2⟩
set_option maxRecDepth 100000 in
set_option maxHeartbeats 4000000 in
theorem take_any (E : Nat → Value) (r A limit : Nat) (s : RS) (h : Hn) (h1 : h.1.1.size ≤ 1000000000) (h2 : h.1.2.size ≤ 1000000000) (w : World) (hr : Rg' w r A limit s) (hE : Env w E) (hX : Errs E) :
    Calls Tryd.prog 112 #[.pointer (some ⟨r, 0, none⟩), hdN h.1 h.2] w (Step E r A limit (fun _ : Unit => .tuple #[]) (takeS h s) w) := by
  obtain ⟨⟨hn, hv⟩, nv⟩ := h
  simp only at h1 h2 ⊢
  generalize hw0 : w.alloc (.cells #[.string hn, .string hv, .bool nv] 77) = w0
  have hb0 : Below w.heap.size w w0 := by rw [← hw0]; exact (Below.refl _ w).alloc (Nat.le_refl _) _
  have hz0 : w.heap.size < w0.heap.size := by rw [← hw0]; simp
  have k0 : w0.cell? ⟨w.heap.size, 0, none⟩ = some (.string hn) := by rw [← hw0]; simp
  have k1 : w0.cell? ⟨w.heap.size, 1, none⟩ = some (.string hv) := by rw [← hw0]; simp
  have k2 : w0.cell? ⟨w.heap.size, 2, none⟩ = some (.bool nv) := by rw [← hw0]; simp
  have hlt := hr.lt
  have HR0 := Lib.hid (hr.below hb0)
  have HEW := Lib.hid hE
  have HRW := Lib.hid hr
  have HB0 := Lib.hid hb0
  have q4 := HR0.out.c4
  have hz4 := HR0.out.z 4
  have hsz := hr.sz
  have hol := hr.ol
  have HW0 := Lib.hid hw0
  have HT : Hid (takeS ((hn, hv), nv) s = if 16384 < s.size + sizeH (hn, hv) then .er 110 else .ok ((), { s with out := s.out ++ [((hn, hv), nv)], size := s.size + sizeH (hn, hv) })) := Lib.hid rfl
  have hr0 : r < w0.heap.size := HR0.out.lt
  generalize hH : w.heap.size = H at k0 k1 k2 hz0 hlt
  have HHS := Lib.hid hH
  have HSZ : Hid (∀ W, Below w0.heap.size w0 W → Calls Tryd.prog 59 #[hdN (hn, hv) nv] W fun e w' => e = .returned (.int .i64 (sizeH (hn, hv) : Int)) ∧
      w'.cell? ⟨r, 4, none⟩ = some (.int .i64 (s.size : Int)) ∧ w'.frozen? ⟨r, 4, none⟩ = false ∧ Below w0.heap.size w0 w') := Lib.hid (fun W hW => by
    refine (Tt.sizeOf_any (hn, hv) nv W (by simp only []; omega) (by simp only []; omega)).mono ?_
    rintro e w' ⟨rfl, rfl⟩
    have hX := hW.alloc hW.size (.cells #[.string hn, .string hv, .bool nv] 77)
    exact ⟨rfl, (hX.cell (p := ⟨r, 4, none⟩) hr0).trans q4, (hX.frozen (p := ⟨r, 4, none⟩) hr0).trans hz4, hX⟩)
  have h32 : 32 ≤ sizeH (hn, hv) := by simp only [sizeH]; omega
  have hGb : sizeH (hn, hv) ≤ 3000000000 := by simp only [sizeH]; omega
  generalize sizeH (hn, hv) = G at HSZ HT h32 hGb
  have hwz : IntKind.i64.wrap ((s.size : Int) + (G : Int)) = (s.size : Int) + (G : Int) := IntWalk.i64_in _ (by omega)
  clear hr hE hb0 hw0 hH
  go_enter Tryd.func112, Tryd.ntmps112
  go_upto_region 1 with fail
  rw [HW0.out, HHS.out]
  go_cut [] from 4 to 12 (fun wx => ∃ wy, Below w0.heap.size w0 wy ∧ wx = wy.setCell ⟨r, 4, none⟩ (.int .i64 ((s.size : Int) + (G : Int))))
  case first =>
    go_region_law (go_simp; (with_reducible_and_instances refine Calls.mono (HSZ.out _ (by first | assumption | exact Below.refl _ _ | exact Below.drew (Below.refl _ _))) ?_); rintro e w6 ⟨rfl, hw1, hw2, hw3⟩; go_simp)
    all_goals (go_wp2_with fail; go_meet)
    all_goals exact ⟨_, (by first | exact hw3 | exact Below.drew hw3), rfl⟩
  case rest =>
    obtain ⟨wy, hby, hwc⟩ := hcut
    have hsum : (s.size : Int) + (G : Int) = ((s.size + G : Nat) : Int) := by simp
    rw [hsum] at hwc
    clear hsum hwz
    have c4y := (hby.cell (p := ⟨r, 4, none⟩) hr0).trans q4
    have hKc : Hid (Kr r A w wc) := Lib.hid (by
      rw [hwc]
      exact ((Kr.of_below HB0.out (by rw [HHS.out]; exact hlt)).trans (Kr.of_below hby hr0)).trans (Kr.set wy 4 _ (by omega)))
    have c4c : wc.cell? ⟨r, 4, none⟩ = some (.int .i64 ((s.size + G : Nat) : Int)) := by rw [hwc]; exact cell_setS _ _ _ _ _ c4y
    have hzy := hby.size
    have HCE := Lib.hid ((HEW.out.kq HR0.out.glob HR0.out.ne HR0.out.ne (hKc.out.kq HRW.out)).c110)
    have hbH : wc.heap[H]? = w0.heap[H]? := by rw [hwc]; exact (((Kp.refl r wy).set 4 _).block H (by omega) (by omega)).trans (hby.block H hz0)
    have kc0 := (World.cell?_of_block (a := ⟨H, 0, none⟩) hbH).trans k0
    have kc1 := (World.cell?_of_block (a := ⟨H, 1, none⟩) hbH).trans k1
    have kc2 := (World.cell?_of_block (a := ⟨H, 2, none⟩) hbH).trans k2
    have hzc : wy.heap.size ≤ wc.heap.size := by rw [hwc]; simp [World.setCell]
    by_cases hG : 16384 < s.size + G
    · obtain ⟨ty, p, hx⟩ := hX 110
      have hcE : wc.cell? ⟨5, 0, none⟩ = some (E 110) := HCE.out
      rw [hx] at hcE
      have HX := Lib.hid hx
      have hdi : decide ((16384 : Int) < ((s.size + G : Nat) : Int)) = true := by simp; omega
      have HU : Hid (takeS ((hn, hv), nv) s = .er 110) := Lib.hid (by rw [HT.out, if_pos hG])
      clear hX hx HT HSZ q4 hz4 hwc hby c4y
      go_wp2_with fail
      refine (giveUp_any ty p _).mono ?_
      rintro e w' ⟨rfl, rfl⟩
      go_wp2_with fail
      exact ⟨rfl, hKc.out, by rw [HU.out]; show _ = _; rw [HX.out]⟩
    · have HU : Hid (takeS ((hn, hv), nv) s = .ok ((), { s with out := s.out ++ [((hn, hv), nv)], size := s.size + G })) := Lib.hid (by rw [HT.out, if_neg hG])
      have HRc : Hid (Rg' wc r A limit { s with size := s.size + G }) := Lib.hid (by rw [hwc]; exact (HR0.out.below hby).setSize _ (by omega) (by omega))
      have hdi : decide ((16384 : Int) < ((s.size + G : Nat) : Int)) = false := by simp; omega
      obtain ⟨v, c3, hown⟩ := HRc.out.c3
      obtain ⟨ad, cp, hv', hNs⟩ := hown.ns
      subst hv'
      have hzz := fun i => HRc.out.z i
      have HOW := Lib.hid hown
      have hrc : r < wc.heap.size := HRc.out.lt
      clear hX HT HSZ q4 hz4 hwc hby c4y hNs hown
      go_upto_region 4 with fail
      go_region_law (first | (refine step_append_n rfl _ _ rfl _ s.out [((hn, hv), nv)] rfl (r + 1) (HOW.out.kept (((Below.refl _ _).alloc (Nat.le_refl _) _).drew)) _ 1 1 rfl ((ns_new1 _ _).kept (Below.drew (Below.refl _ _))) (by first | (simp; done) | (simp; omega)) (by first | (simp; done) | (simp; omega)) ?_; intro w9 a9 N9 c9 hN9 hown9 hb9 hap9; (have hB9 : Below (r + 1) wc w9 := ((((Below.refl wc.heap.size wc).alloc (Nat.le_refl _) _).drew).mono (by omega)).trans hb9); have hx9 := (hB9.cell (p := ⟨r, 3, none⟩) (by simp only []; omega)).trans c3; have hz9 := (hB9.frozen (p := ⟨r, 3, none⟩) (by simp only []; omega)).trans (hzz 3)))
      all_goals go_wp2
      all_goals go_end0
      all_goals refine ⟨hKc.out.trans (Kr.app hrc c3 hB9 (fun x hx hv => by obtain ⟨f1, f2⟩ := hap9 x (by simp; omega) hv; exact ⟨f1.trans (Below.heap_alloc _ _ _ hx), f2⟩)), ?_⟩
      all_goals rw [HU.out]
      all_goals exact ⟨rfl, HRc.out.setOut hB9 _ _ (by have hh := hN9.out; rw [hh] at hown9; rw [hh]; exact hown9) (by simp; omega)⟩
end Go.Proofs.YtlkieeindnpidaaDoor

namespace Go.Proofs.YtlkieeindnpidaaDoor
open Go.RowKit Tt Hu Hu.Hf

/-- A box of one header at block x. -/
structure Bx (w : World) (x : Nat) (a b c : Value) : Prop where
  c0 : w.cell? ⟨x, 0, none⟩ = some a
  c1 : w.cell? ⟨x, 1, none⟩ = some b
  c2 : w.cell? ⟨x, 2, none⟩ = some c
  z : ∀ i, w.frozen? ⟨x, i, none⟩ = false
theorem Bx.keep {w w' : World} {x : Nat} {a b c : Value} (h : Bx w x a b c) (hb : w'.heap[x]? = w.heap[x]?) : Bx w' x a b c :=
  ⟨(World.cell?_of_block (a := ⟨x, 0, none⟩) hb).trans h.c0, (World.cell?_of_block (a := ⟨x, 1, none⟩) hb).trans h.c1, (World.cell?_of_block (a := ⟨x, 2, none⟩) hb).trans h.c2, fun i => (World.frozen?_of_block (a := ⟨x, i, none⟩) hb).trans (h.z i)⟩
theorem Bx.other {w : World} {x y i : Nat} {a b c v : Value} (h : Bx w x a b c) (hne : x ≠ y) : Bx (w.setCell ⟨y, i, none⟩ v) x a b c := h.keep (Below.heap_setCell _ _ _ _ hne)
theorem Bx.set0 {w : World} {x : Nat} {a b c : Value} (h : Bx w x a b c) (v : Value) : Bx (w.setCell ⟨x, 0, none⟩ v) x v b c :=
  ⟨cell_setS _ _ _ _ _ h.c0, by rw [cell_setN _ _ _ _ _ (by omega)]; exact h.c1, by rw [cell_setN _ _ _ _ _ (by omega)]; exact h.c2, fun i => by rw [World.frozen?_setCell]; exact h.z i⟩
theorem Bx.set1 {w : World} {x : Nat} {a b c : Value} (h : Bx w x a b c) (v : Value) : Bx (w.setCell ⟨x, 1, none⟩ v) x a v c :=
  ⟨by rw [cell_setN _ _ _ _ _ (by omega)]; exact h.c0, cell_setS _ _ _ _ _ h.c1, by rw [cell_setN _ _ _ _ _ (by omega)]; exact h.c2, fun i => by rw [World.frozen?_setCell]; exact h.z i⟩
theorem Bx.set2 {w : World} {x : Nat} {a b c : Value} (h : Bx w x a b c) (v : Value) : Bx (w.setCell ⟨x, 2, none⟩ v) x a b v :=
  ⟨by rw [cell_setN _ _ _ _ _ (by omega)]; exact h.c0, by rw [cell_setN _ _ _ _ _ (by omega)]; exact h.c1, cell_setS _ _ _ _ _ h.c2, fun i => by rw [World.frozen?_setCell]; exact h.z i⟩
theorem Bx.new (w : World) (a b c : Value) (t : TypeId) : Bx (w.alloc (.cells #[a, b, c] t)) w.heap.size a b c := ⟨by simp, by simp, by simp, fun i => by simp⟩
theorem Bx.lt {w : World} {x : Nat} {a b c : Value} (h : Bx w x a b c) : x < w.heap.size := Hu.cell_lt h.c0
theorem Bx.alloc {w : World} {x : Nat} {a b c : Value} (h : Bx w x a b c) (o : Obj) : Bx (w.alloc o) x a b c := h.keep (Below.heap_alloc _ _ _ h.lt)
theorem NOwn.blk {w w' : World} {B : Nat} {v : Value} {l : List Hn} (h : NOwn w B v l) (hb : ∀ g, v.ownBlock = some g → w'.heap[g]? = w.heap[g]?) : NOwn w' B v l := by
  obtain ⟨h1, h2⟩ := h
  refine ⟨h1, ?_⟩
  rcases h2 with h2 | ⟨g, cap, cur, hv, hg, hh, q⟩
  · exact Or.inl h2
  · refine Or.inr ⟨g, cap, cur, hv, hg, ?_, q⟩
    rw [hb g (by rw [hv]; rfl)]
    exact hh
/-- What is stored above the reading, but not in its list's row. -/
theorem Rg'.setBox {w : World} {r A limit : Nat} {s : RS} (h : Rg' w r A limit s) {x : Nat} (hx : r < x) (hv : (lv r w).ownBlock ≠ some x) (i : Nat) (v : Value) : Rg' (w.setCell ⟨x, i, none⟩ v) r A limit s := by
  obtain ⟨la, ln, lc, a0, a1, a2⟩ := h.c0
  obtain ⟨u, a3, a4⟩ := h.c3
  have hA := h.ne
  have hb : ∀ k, k ≠ x → (w.setCell ⟨x, i, none⟩ v).heap[k]? = w.heap[k]? := fun k hk => Below.heap_setCell _ _ _ _ hk
  have hr := hb r (by omega)
  have hlu : lv r w = u := by unfold lv; rw [a3]; rfl
  rw [hlu] at hv
  exact ⟨⟨la, ln, lc, (World.cell?_of_block (a := ⟨r, 0, none⟩) hr).trans a0, sl_kp a1 ((Kp.refl x w).set i v) (fun p hp h0 => by have := a2 p hp h0; omega), a2⟩, (World.cell?_of_block (a := ⟨r, 1, none⟩) hr).trans h.c1, (World.cell?_of_block (a := ⟨r, 2, none⟩) hr).trans h.c2,
    ⟨u, (World.cell?_of_block (a := ⟨r, 3, none⟩) hr).trans a3, a4.blk (fun g hg => hb g (fun e => hv (by rw [hg, e])))⟩, (World.cell?_of_block (a := ⟨r, 4, none⟩) hr).trans h.c4, fun j => (World.frozen?_of_block (a := ⟨r, j, none⟩) hr).trans (h.z j), h.has.blk (hb A (by omega)), h.ne, h.m, h.lim, h.len, h.sz, h.ol, h.glob⟩
theorem lv_setBox {w : World} {r x i : Nat} {v : Value} (hx : r ≠ x) : lv r (w.setCell ⟨x, i, none⟩ v) = lv r w := by
  unfold lv; rw [World.cell?_of_block (a := ⟨r, 3, none⟩) (Below.heap_setCell _ _ _ _ hx)]
theorem Kr.setNew {r A : Nat} {w w' : World} (h : Kr r A w w') {x : Nat} (hx : w.heap.size ≤ x) (hr : r < w.heap.size) (i : Nat) (v : Value) : Kr r A w (w'.setCell ⟨x, i, none⟩ v) :=
  ⟨h.os, h.tape, h.output, by have := h.size; simp [World.setCell]; omega, fun k hk h1 h2 hv => by
    obtain ⟨e1, e2⟩ := h.block k hk h1 h2 hv
    exact ⟨(Below.heap_setCell _ _ _ _ (show k ≠ x by omega)).trans e1, by rw [lv_setBox (by omega)]; exact e2⟩⟩
theorem lv_alloc {w : World} {r : Nat} (hr : r < w.heap.size) (o : Obj) : lv r (w.alloc o) = lv r w := by
  unfold lv; rw [World.cell?_of_block (a := ⟨r, 3, none⟩) (Below.heap_alloc _ _ _ hr)]

set_option maxRecDepth 100000 in
set_option maxHeartbeats 4000000 in
theorem named_any (E : Nat → Value) (r A limit : Nat) (s : RS) (n : Nat) (hn : n ≤ 2147483647) (w : World) (h : Rg' w r A limit s) (hE : Env w E) (hX : Errs E) :
    Calls Tryd.prog 114 #[.pointer (some ⟨r, 0, none⟩), .int .i64 (n : Int)] w (Step E r A limit (fun h : Hd => hdV h) (namedS n s) w) := by
  have hlt := h.lt
  have hb2 : Below w.heap.size w ((w.alloc (.cells #[.string ⟨#[]⟩, .string ⟨#[]⟩, .bool false] 77)).alloc (.cells #[.string ⟨#[]⟩, .string ⟨#[]⟩, .bool false] 77)) := ((Below.refl _ w).alloc (Nat.le_refl _) _).alloc (by simp) _
  have B0 := (Bx.new w (.string ⟨#[]⟩) (.string ⟨#[]⟩) (.bool false) 77).alloc (.cells #[.string ⟨#[]⟩, .string ⟨#[]⟩, .bool false] 77)
  have B1 := Bx.new (w.alloc (.cells #[.string ⟨#[]⟩, .string ⟨#[]⟩, .bool false] 77)) (.string ⟨#[]⟩) (.string ⟨#[]⟩) (.bool false) 77
  simp only [World.size_alloc] at B1
  generalize hw2 : (w.alloc (.cells #[.string ⟨#[]⟩, .string ⟨#[]⟩, .bool false] 77)).alloc (.cells #[.string ⟨#[]⟩, .string ⟨#[]⟩, .bool false] 77) = w2 at hb2 B0 B1
  have HR2 := Lib.hid (h.below hb2)
  have HE2 := Lib.hid (hE.kept hb2)
  have HW2 := Lib.hid hw2
  have hz2 : w2.heap.size = w.heap.size + 2 := by rw [← hw2]; simp
  have l0 : (lv r w2).ownBlock ≠ some w.heap.size := by
    have e : lv r w2 = lv r w := by unfold lv; rw [hb2.cell (p := ⟨r, 3, none⟩) hlt]
    rw [e]; exact h.own_ne (Or.inr (Nat.le_refl _))
  have l1 : (lv r w2).ownBlock ≠ some (w.heap.size + 1) := by
    have e : lv r w2 = lv r w := by unfold lv; rw [hb2.cell (p := ⟨r, 3, none⟩) hlt]
    rw [e]; exact h.own_ne (Or.inr (Nat.le_succ _))
  have HK2 : Hid (Kr r A w w2) := Lib.hid (Kr.of_below hb2 hlt)
  have hAr := h.ne
  generalize hH : w.heap.size = H at B0 B1 hz2 l0 l1 hlt
  have HHS := Lib.hid hH
  clear h hE hb2 hw2 hH
  by_cases hn0 : n = 0
  · subst hn0
    have HT := Lib.hid (rtext_any E r A limit s w2 HR2.out HE2.out hX)
    have HNS : Hid (namedS 0 s = match textS s with
      | .er c => .er c
      | .ok (t, s1) => match textS s1 with
        | .er c => .er c
        | .ok (v, s2) => .ok ((t, v), s2)) := Lib.hid (by unfold namedS; exact if_pos rfl)
    cases ht : textS s with
    | er c =>
      rw [ht] at HT HNS
      go_enter Tryd.func114, Tryd.ntmps114
      go_wp2_with fail
      rw [HW2.out]
      refine HT.out.mono ?_
      rintro e w3 ⟨hk, rfl⟩
      go_wp2_with fail
      exact ⟨rfl, HK2.out.trans hk, by rw [HNS.out]; rfl⟩
    | ok q =>
      obtain ⟨t, s1⟩ := q
      rw [ht] at HT HNS
      simp only at HNS
      clear ht
      have HV := Lib.hid (fun W (hr : Rg' W r A limit s1) (he : Env W E) => rtext_any E r A limit s1 W hr he hX)
      clear hX
      go_enter Tryd.func114, Tryd.ntmps114
      go_wp2_with fail
      rw [HW2.out]
      simp only [HHS.out]
      refine HT.out.mono ?_
      rintro e w3 ⟨hk3, rfl, hr3⟩
      obtain ⟨y0, m0⟩ := hk3.box (k := H) (by omega) (by omega) (by omega) l0
      obtain ⟨y1, m1⟩ := hk3.box (k := H + 1) (by omega) (by omega) (by omega) l1
      have C0 := B0.keep y0
      have C1 := B1.keep y1
      have he3 := HE2.out.kq HR2.out.glob HR2.out.ne HR2.out.ne (hk3.kq HR2.out)
      have D0 : Bx (w3.setCell ⟨H + 1, 0, none⟩ (.string t)) H _ _ _ := C0.other (by omega)
      have D1 := C1.set0 (.string t)
      have HR4 := Lib.hid (hr3.setBox (x := H + 1) (by omega) m1 0 (.string t))
      have HE4 : Hid (Env (w3.setCell ⟨H + 1, 0, none⟩ (.string t)) E) := Lib.hid (he3.of_blocks fun g hg => Below.heap_setCell _ _ _ _ (show g ≠ H + 1 by have := HR2.out.glob g hg; omega))
      have HK4 := Lib.hid ((HK2.out.trans hk3).setNew (x := H + 1) (by rw [HHS.out]; omega) (by rw [HHS.out]; exact hlt) 0 (.string t))
      have HV4 := Lib.hid (HV.out _ HR4.out HE4.out)
      have n0 : (lv r (w3.setCell ⟨H + 1, 0, none⟩ (.string t))).ownBlock ≠ some H := by rw [lv_setBox (by omega)]; exact m0
      have n1 : (lv r (w3.setCell ⟨H + 1, 0, none⟩ (.string t))).ownBlock ≠ some (H + 1) := by rw [lv_setBox (by omega)]; exact m1
      have p1 := C1.c0
      have pz := fun i => C1.z i
      clear HT HV B0 B1 y0 y1 hk3 hr3 he3 l0 l1 m0 m1 C0 C1
      go_wp2_with fail
      generalize hw4 : w3.setCell ⟨H + 1, 0, none⟩ (.string t) = w4 at D0 D1 HR4 HE4 HK4 HV4 n0 n1
      have hz4 : H + 1 < w4.heap.size := D1.lt
      have hr4l := HR4.out.lt
      have HTS : Hid (∀ s2, Rg' w4 r A limit s2 → True) := Lib.hid (fun _ _ => trivial)
      clear HTS hw4 p1 pz
      cases ht1 : textS s1 with
      | er c =>
        rw [ht1] at HV4 HNS
        refine HV4.out.mono ?_
        rintro e w5 ⟨hk5, rfl⟩
        go_wp2_with fail
        exact ⟨rfl, HK4.out.trans hk5, by rw [HNS.out]; rfl⟩
      | ok q =>
        obtain ⟨v, s2⟩ := q
        rw [ht1] at HV4 HNS
        simp only at HNS
        clear ht1
        refine HV4.out.mono ?_
        rintro e w5 ⟨hk5, rfl, hr5⟩
        obtain ⟨y0, m0⟩ := hk5.box (k := H) (by omega) (by omega) (by omega) n0
        obtain ⟨y1, m1⟩ := hk5.box (k := H + 1) (by omega) (by omega) (by omega) n1
        have F0 := D0.keep y0
        have F1 := D1.keep y1
        have a0 := F0.c0
        have a1 := F0.c1
        have a2 := F0.c2
        have az := fun i => F0.z i
        have b0 := F1.c0
        have b1 := F1.c1
        have b2 := F1.c2
        have bz := fun i => F1.z i
        have hz5 : H + 1 < w5.heap.size := F1.lt
        have hn1 : ¬ H = H + 1 := by omega
        have hn2 : ¬ H + 1 = H := by omega
        have hRF : Hid (Rg' (((((w5.setCell ⟨H + 1, 1, none⟩ (.string v)).setCell ⟨H, 0, none⟩ (.string t)).setCell ⟨H, 1, none⟩ (.string v)).setCell ⟨H, 2, none⟩ (.bool false))) r A limit s2) := Lib.hid (by
          refine (((hr5.setBox (x := H + 1) (by omega) m1 1 _).setBox (x := H) (by omega) ?_ 0 _).setBox (x := H) (by omega) ?_ 1 _).setBox (x := H) (by omega) ?_ 2 _
          · rw [lv_setBox (by omega)]; exact m0
          · rw [lv_setBox (by omega), lv_setBox (by omega)]; exact m0
          · rw [lv_setBox (by omega), lv_setBox (by omega), lv_setBox (by omega)]; exact m0)
        have hKF : Hid (Kr r A w (((((w5.setCell ⟨H + 1, 1, none⟩ (.string v)).setCell ⟨H, 0, none⟩ (.string t)).setCell ⟨H, 1, none⟩ (.string v)).setCell ⟨H, 2, none⟩ (.bool false)))) := Lib.hid (by
          have hwl : r < w.heap.size := by rw [HHS.out]; exact hlt
          have hwh : w.heap.size ≤ H := by rw [HHS.out]; exact Nat.le_refl _
          exact ((((HK4.out.trans hk5).setNew (x := H + 1) (by omega) hwl 1 _).setNew (x := H) hwh hwl 0 _).setNew (x := H) hwh hwl 1 _).setNew (x := H) hwh hwl 2 _)
        clear HV4 HK4 HR4 HE4 D0 D1 y0 y1 hk5 hr5 F0 F1 m0 m1 n0 n1
        go_wp2_with fail
        refine bodyPost_ret (v := hdV (t, v)) (by simp [results, Tryd.results114, go_sem, a0, a1, a2, az, b0, b1, b2, bz, hz5, hn1, hn2]) rfl ?_
        exact ⟨hKF.out, by rw [HNS.out]; exact ⟨rfl, hRF.out⟩⟩
  · have hnz : ((n : Int) == 0) = false := by rw [beq_eq_false_iff_ne]; omega
    have HT := Lib.hid (header_any E r A limit s n hn w2 HR2.out HE2.out hX)
    have HNS : Hid (namedS n s = match headS n s with
      | .er c => .er c
      | .ok (g, s1) => match textS s1 with
        | .er c => .er c
        | .ok (v, s2) => .ok ((g.1, v), s2)) := Lib.hid (by unfold namedS headS; rw [if_neg hn0]; cases getM s.M (n : Int) <;> rfl)
    clear hn0
    cases ht : headS n s with
    | er c =>
      rw [ht] at HT HNS
      go_enter Tryd.func114, Tryd.ntmps114
      go_wp2_with fail
      rw [HW2.out]
      refine HT.out.mono ?_
      rintro e w3 ⟨hk, rfl⟩
      go_wp2_with fail
      exact ⟨rfl, HK2.out.trans hk, by rw [HNS.out]; rfl⟩
    | ok q =>
      obtain ⟨⟨t, gv⟩, s1⟩ := q
      rw [ht] at HT HNS
      simp only at HNS
      clear ht
      have HV := Lib.hid (fun W (hr : Rg' W r A limit s1) (he : Env W E) => rtext_any E r A limit s1 W hr he hX)
      clear hX
      go_enter Tryd.func114, Tryd.ntmps114
      go_wp2_with fail
      rw [HW2.out]
      simp only [HHS.out]
      refine HT.out.mono ?_
      rintro e w3 ⟨hk3, rfl, hr3⟩
      obtain ⟨y0, m0⟩ := hk3.box (k := H) (by omega) (by omega) (by omega) l0
      obtain ⟨y1, m1⟩ := hk3.box (k := H + 1) (by omega) (by omega) (by omega) l1
      have C0 := B0.keep y0
      have C1 := B1.keep y1
      have he3 := HE2.out.kq HR2.out.glob HR2.out.ne HR2.out.ne (hk3.kq HR2.out)
      have D0 : Bx (w3.setCell ⟨H + 1, 0, none⟩ (.string t)) H _ _ _ := C0.other (by omega)
      have D1 := C1.set0 (.string t)
      have HR4 := Lib.hid (hr3.setBox (x := H + 1) (by omega) m1 0 (.string t))
      have HE4 : Hid (Env (w3.setCell ⟨H + 1, 0, none⟩ (.string t)) E) := Lib.hid (he3.of_blocks fun g hg => Below.heap_setCell _ _ _ _ (show g ≠ H + 1 by have := HR2.out.glob g hg; omega))
      have HK4 := Lib.hid ((HK2.out.trans hk3).setNew (x := H + 1) (by rw [HHS.out]; omega) (by rw [HHS.out]; exact hlt) 0 (.string t))
      have HV4 := Lib.hid (HV.out _ HR4.out HE4.out)
      have n0 : (lv r (w3.setCell ⟨H + 1, 0, none⟩ (.string t))).ownBlock ≠ some H := by rw [lv_setBox (by omega)]; exact m0
      have n1 : (lv r (w3.setCell ⟨H + 1, 0, none⟩ (.string t))).ownBlock ≠ some (H + 1) := by rw [lv_setBox (by omega)]; exact m1
      have p1 := C1.c0
      have pz := fun i => C1.z i
      have hfl : ∀ W, (Instr.field 77 (hdV (t, gv)) 0).run Tryd.prog W = .ok (.string t) W := fun W => by kernel_rfl
      clear HT HV B0 B1 y0 y1 hk3 hr3 he3 l0 l1 m0 m1 C0 C1
      go_wp2_with fail
      clear hfl
      generalize hw4 : w3.setCell ⟨H + 1, 0, none⟩ (.string t) = w4 at D0 D1 HR4 HE4 HK4 HV4 n0 n1
      have hz4 : H + 1 < w4.heap.size := D1.lt
      have hr4l := HR4.out.lt
      have HTS : Hid (∀ s2, Rg' w4 r A limit s2 → True) := Lib.hid (fun _ _ => trivial)
      clear HTS hw4 p1 pz
      cases ht1 : textS s1 with
      | er c =>
        rw [ht1] at HV4 HNS
        refine HV4.out.mono ?_
        rintro e w5 ⟨hk5, rfl⟩
        go_wp2_with fail
        exact ⟨rfl, HK4.out.trans hk5, by rw [HNS.out]; rfl⟩
      | ok q =>
        obtain ⟨v, s2⟩ := q
        rw [ht1] at HV4 HNS
        simp only at HNS
        clear ht1
        refine HV4.out.mono ?_
        rintro e w5 ⟨hk5, rfl, hr5⟩
        obtain ⟨y0, m0⟩ := hk5.box (k := H) (by omega) (by omega) (by omega) n0
        obtain ⟨y1, m1⟩ := hk5.box (k := H + 1) (by omega) (by omega) (by omega) n1
        have F0 := D0.keep y0
        have F1 := D1.keep y1
        have a0 := F0.c0
        have a1 := F0.c1
        have a2 := F0.c2
        have az := fun i => F0.z i
        have b0 := F1.c0
        have b1 := F1.c1
        have b2 := F1.c2
        have bz := fun i => F1.z i
        have hz5 : H + 1 < w5.heap.size := F1.lt
        have hn1 : ¬ H = H + 1 := by omega
        have hn2 : ¬ H + 1 = H := by omega
        have hRF : Hid (Rg' (((((w5.setCell ⟨H + 1, 1, none⟩ (.string v)).setCell ⟨H, 0, none⟩ (.string t)).setCell ⟨H, 1, none⟩ (.string v)).setCell ⟨H, 2, none⟩ (.bool false))) r A limit s2) := Lib.hid (by
          refine (((hr5.setBox (x := H + 1) (by omega) m1 1 _).setBox (x := H) (by omega) ?_ 0 _).setBox (x := H) (by omega) ?_ 1 _).setBox (x := H) (by omega) ?_ 2 _
          · rw [lv_setBox (by omega)]; exact m0
          · rw [lv_setBox (by omega), lv_setBox (by omega)]; exact m0
          · rw [lv_setBox (by omega), lv_setBox (by omega), lv_setBox (by omega)]; exact m0)
        have hKF : Hid (Kr r A w (((((w5.setCell ⟨H + 1, 1, none⟩ (.string v)).setCell ⟨H, 0, none⟩ (.string t)).setCell ⟨H, 1, none⟩ (.string v)).setCell ⟨H, 2, none⟩ (.bool false)))) := Lib.hid (by
          have hwl : r < w.heap.size := by rw [HHS.out]; exact hlt
          have hwh : w.heap.size ≤ H := by rw [HHS.out]; exact Nat.le_refl _
          exact ((((HK4.out.trans hk5).setNew (x := H + 1) (by omega) hwl 1 _).setNew (x := H) hwh hwl 0 _).setNew (x := H) hwh hwl 1 _).setNew (x := H) hwh hwl 2 _)
        clear HV4 HK4 HR4 HE4 D0 D1 y0 y1 hk5 hr5 F0 F1 m0 m1 n0 n1
        go_wp2_with fail
        refine bodyPost_ret (v := hdV (t, v)) (by simp [results, Tryd.results114, go_sem, a0, a1, a2, az, b0, b1, b2, bz, hz5, hn1, hn2]) rfl ?_
        exact ⟨hKF.out, by rw [HNS.out]; exact ⟨rfl, hRF.out⟩⟩
end Go.Proofs.YtlkieeindnpidaaDoor

namespace Go.Proofs.YtlkieeindnpidaaDoor
open Go.RowKit Tt Hu Hu.Hf

theorem says_len (l : List UInt8) : ∀ (r i c n : Nat) (out t : List UInt8), says l r i c n out = some t → t.length ≤ out.length + r
  | 0, i, c, n, out, t, h => by
    unfold says at h
    split at h
    · cases h
    · cases h; omega
  | r + 1, i, c, n, out, t, h => by
    unfold says at h
    split at h
    · have := says_len l r _ _ _ out t h; omega
    · split at h
      · cases h
      · have := says_len l r _ _ _ _ t h
        simp only [List.length_append, List.length_cons, List.length_nil] at this
        omega
theorem getText_size {l : List UInt8} {t : ByteArray} {k : Nat} (h : getText l = .ok (t, k)) : t.size ≤ 200000 := by
  unfold getText at h
  cases hi : getInt 7 l with
  | er c => rw [hi] at h; cases h
  | ok p =>
    obtain ⟨n, j⟩ := p
    rw [hi] at h
    simp only at h
    by_cases h1 : 16384 < n
    · rw [if_pos h1] at h; cases h
    · rw [if_neg h1] at h
      by_cases h2 : l.length - j < n
      · rw [if_pos h2] at h; cases h
      · rw [if_neg h2] at h
        by_cases h3 : (l.getD 0 0).toNat < 128
        · rw [if_pos h3] at h
          cases h
          have : ((l.drop j).take n).length ≤ n := List.length_take_le _ _
          show ((l.drop j).take n).toArray.size ≤ _
          simp only [List.size_toArray]
          omega
        · rw [if_neg h3] at h
          split at h
          · rename_i t' ht
            cases h
            have h4 := says_len _ _ _ _ _ _ _ ht
            have h5 : ((l.drop j).take n).length ≤ n := List.length_take_le _ _
            show t'.toArray.size ≤ _
            simp only [List.size_toArray, List.length_nil] at *
            omega
          · cases h
theorem textS_size {s s1 : RS} {t : ByteArray} (h : textS s = .ok (t, s1)) : t.size ≤ 200000 := by
  unfold textS at h
  cases hi : getText s.left with
  | er c => rw [hi] at h; cases h
  | ok p =>
    obtain ⟨t', k⟩ := p
    rw [hi] at h
    simp only at h
    cases h
    exact getText_size hi
theorem stH_small (i : Nat) : (stH i).1.size ≤ 4096 ∧ (stH i).2.size ≤ 4096 := by
  have h : standL.all (fun h => decide (h.1.size ≤ 4096) && decide (h.2.size ≤ 4096)) = true := by decide +kernel
  unfold stH
  rw [List.getD_eq_getElem?_getD]
  cases hg : standL[i]? with
  | none => exact ⟨by decide, by decide⟩
  | some g =>
    have := List.all_eq_true.1 h g (List.mem_of_getElem? hg)
    simpa using this
theorem mem_small : ∀ {M : List Hd} {g : Hd}, g ∈ M → sizeH g ≤ total M
  | h :: t, g, hg => by
    simp only [total]
    rcases List.mem_cons.1 hg with rfl | hg
    · omega
    · have := mem_small hg; omega
theorem getM_small {M : List Hd} {n : Nat} {g : Hd} (hT : total M ≤ 4096) (h : getM M (n : Int) = some g) : g.1.size ≤ 4096 ∧ g.2.size ≤ 4096 := by
  unfold getM at h
  split at h
  · cases h; exact stH_small _
  · split at h
    · rename_i h1 h2
      cases h
      unfold nth
      rw [List.getD_eq_getElem?_getD]
      cases hg : M[M.length - 1 - ((n : Int) - 62).toNat]? with
      | none => exact ⟨by decide, by decide⟩
      | some g' =>
        have := mem_small (List.mem_of_getElem? hg)
        simp only [Option.getD_some]
        unfold sizeH at this
        omega
    · cases h
theorem headS_size {s s1 : RS} {n : Nat} {g : Hd} (hT : total s.M ≤ 4096) (h : headS n s = .ok (g, s1)) : g.1.size ≤ 4096 ∧ g.2.size ≤ 4096 ∧ s1 = s := by
  unfold headS at h
  cases hi : getM s.M (n : Int) with
  | none => rw [hi] at h; cases h
  | some g' =>
    rw [hi] at h
    cases h
    have := getM_small hT hi
    exact ⟨this.1, this.2, rfl⟩
theorem namedS_size {s s1 : RS} {n : Nat} {g : Hd} (hT : total s.M ≤ 4096) (h : namedS n s = .ok (g, s1)) : g.1.size ≤ 200000 ∧ g.2.size ≤ 200000 := by
  unfold namedS at h
  split at h
  · cases h1 : textS s with
    | er c => rw [h1] at h; cases h
    | ok q =>
      obtain ⟨t, s2⟩ := q
      rw [h1] at h
      simp only at h
      cases h2 : textS s2 with
      | er c => rw [h2] at h; cases h
      | ok q2 =>
        obtain ⟨v, s3⟩ := q2
        rw [h2] at h
        cases h
        exact ⟨textS_size h1, textS_size h2⟩
  · cases h1 : getM s.M (n : Int) with
    | none => rw [h1] at h; cases h
    | some g' =>
      rw [h1] at h
      simp only at h
      cases h2 : textS s with
      | er c => rw [h2] at h; cases h
      | ok q2 =>
        obtain ⟨v, s3⟩ := q2
        rw [h2] at h
        cases h
        have := getM_small hT h1
        exact ⟨by simp only []; omega, textS_size h2⟩

def indexedS (n : Nat) (s : RS) : Res (Unit × RS) := match headS n s with
  | .er c => .er c
  | .ok (g, s1) => takeS (g, false) s1
def litS (nv : Bool) (n : Nat) (s : RS) : Res (Unit × RS) := match namedS n s with
  | .er c => .er c
  | .ok (g, s1) => takeS (g, nv) s1
def addedS (n : Nat) (s : RS) : Res (Unit × RS) := match namedS n s with
  | .er c => .er c
  | .ok (g, s1) => match takeS (g, false) s1 with
    | .er c => .er c
    | .ok (_, s2) => .ok ((), { s2 with M := addM s2.m s2.M g })
def resizedS (limit n : Nat) (s : RS) : Res (Unit × RS) := if 0 < s.out.length ∨ limit < n then .er 109 else .ok ((), { s with m := n, M := shr n s.M })
abbrev unitV : Unit → Value := fun _ => .tuple #[]
theorem Rg'.tot {w : World} {r A limit : Nat} {s : RS} (h : Rg' w r A limit s) : total s.M ≤ 4096 := Nat.le_trans h.has.total_le h.m
theorem Rg'.env {w w' : World} {r A limit : Nat} {s : RS} {E : Nat → Value} (h : Rg' w r A limit s) (hE : Env w E) (hk : Kr r A w w') : Env w' E := hE.kq h.glob h.ne h.ne (hk.kq h)

set_option maxRecDepth 100000 in
theorem indexed_any (E : Nat → Value) (r A limit : Nat) (s : RS) (n : Nat) (hn : n ≤ 2147483647) (w : World) (h : Rg' w r A limit s) (hE : Env w E) (hX : Errs E) :
    Calls Tryd.prog 98 #[.pointer (some ⟨r, 0, none⟩), .int .i64 (n : Int)] w (Step E r A limit unitV (indexedS n s) w) := by
  have HH := Lib.hid (header_any E r A limit s n hn w h hE hX)
  have HTK := Lib.hid (fun g W (hg : g.1.size ≤ 4096 ∧ g.2.size ≤ 4096) (hr : Rg' W r A limit s) (he : Env W E) => take_any E r A limit s (g, false) (by simp only []; omega) (by simp only []; omega) W hr he hX)
  have HENV := Lib.hid (fun W (hk : Kr r A w W) => h.env hE hk)
  have hT := h.tot
  clear h hE hX
  cases hh : headS n s with
  | er c =>
    have HU : Hid (indexedS n s = .er c) := Lib.hid (by unfold indexedS; rw [hh])
    rw [hh] at HH
    clear hh
    go_enter Tryd.func98, Tryd.ntmps98
    go_wp2_with fail
    refine HH.out.mono ?_
    rintro e w1 ⟨hk, rfl⟩
    go_wp2_with fail
    exact ⟨rfl, hk, by rw [HU.out]; rfl⟩
  | ok q =>
    obtain ⟨g, s1⟩ := q
    obtain ⟨g1, g2, rfl⟩ := headS_size hT hh
    have HU : Hid (indexedS n s1 = takeS (g, false) s1) := Lib.hid (by unfold indexedS; rw [hh])
    rw [hh] at HH
    clear hh
    go_enter Tryd.func98, Tryd.ntmps98
    go_wp2_with fail
    refine HH.out.mono ?_
    rintro e w1 ⟨hk, rfl, hr⟩
    have HT1 := Lib.hid (HTK.out g w1 ⟨g1, g2⟩ hr (HENV.out w1 hk))
    clear HH HTK
    cases ht : takeS (g, false) s1 with
    | er c =>
      rw [ht] at HT1 HU
      clear ht
      go_wp2_with fail
      refine HT1.out.mono ?_
      rintro e w2 ⟨hk2, rfl⟩
      go_wp2_with fail
      exact ⟨rfl, hk.trans hk2, by rw [HU.out]; rfl⟩
    | ok q2 =>
      obtain ⟨_, s2⟩ := q2
      rw [ht] at HT1 HU
      clear ht
      go_wp2_with fail
      refine HT1.out.mono ?_
      rintro e w2 ⟨hk2, rfl, hr2⟩
      go_wp2_with fail
      go_end0
      exact ⟨hk.trans hk2, by rw [HU.out]; exact ⟨rfl, hr2⟩⟩
set_option maxRecDepth 100000 in
theorem plain_any (E : Nat → Value) (r A limit : Nat) (s : RS) (n : Nat) (hn : n ≤ 2147483647) (w : World) (h : Rg' w r A limit s) (hE : Env w E) (hX : Errs E) :
    Calls Tryd.prog 102 #[.pointer (some ⟨r, 0, none⟩), .int .i64 (n : Int)] w (Step E r A limit unitV (litS false n s) w) := by
  have HH := Lib.hid (named_any E r A limit s n hn w h hE hX)
  have HTK := Lib.hid (fun g s1 W (hg : g.1.size ≤ 200000 ∧ g.2.size ≤ 200000) (hr : Rg' W r A limit s1) (he : Env W E) => take_any E r A limit s1 (g, false) (by simp only []; omega) (by simp only []; omega) W hr he hX)
  have HENV := Lib.hid (fun W (hk : Kr r A w W) => h.env hE hk)
  have hT := h.tot
  clear h hE hX
  cases hh : namedS n s with
  | er c =>
    have HU : Hid (litS false n s = .er c) := Lib.hid (by unfold litS; rw [hh])
    rw [hh] at HH
    clear hh
    go_enter Tryd.func102, Tryd.ntmps102
    go_wp2_with fail
    refine HH.out.mono ?_
    rintro e w1 ⟨hk, rfl⟩
    go_wp2_with fail
    exact ⟨rfl, hk, by rw [HU.out]; rfl⟩
  | ok q =>
    obtain ⟨g, s1⟩ := q
    have hg := namedS_size hT hh
    have HU : Hid (litS false n s = takeS (g, false) s1) := Lib.hid (by unfold litS; rw [hh])
    rw [hh] at HH
    clear hh
    go_enter Tryd.func102, Tryd.ntmps102
    go_wp2_with fail
    refine HH.out.mono ?_
    rintro e w1 ⟨hk, rfl, hr⟩
    have HT1 := Lib.hid (HTK.out g s1 w1 hg hr (HENV.out w1 hk))
    clear HH HTK
    cases ht : takeS (g, false) s1 with
    | er c =>
      rw [ht] at HT1 HU
      clear ht
      go_wp2_with fail
      refine HT1.out.mono ?_
      rintro e w2 ⟨hk2, rfl⟩
      go_wp2_with fail
      exact ⟨rfl, hk.trans hk2, by rw [HU.out]; rfl⟩
    | ok q2 =>
      obtain ⟨_, s2⟩ := q2
      rw [ht] at HT1 HU
      clear ht
      go_wp2_with fail
      refine HT1.out.mono ?_
      rintro e w2 ⟨hk2, rfl, hr2⟩
      go_wp2_with fail
      go_end0
      exact ⟨hk.trans hk2, by rw [HU.out]; exact ⟨rfl, hr2⟩⟩
set_option maxRecDepth 100000 in
theorem never_any (E : Nat → Value) (r A limit : Nat) (s : RS) (n : Nat) (hn : n ≤ 2147483647) (w : World) (h : Rg' w r A limit s) (hE : Env w E) (hX : Errs E) :
    Calls Tryd.prog 101 #[.pointer (some ⟨r, 0, none⟩), .int .i64 (n : Int)] w (Step E r A limit unitV (litS true n s) w) := by
  have HH := Lib.hid (named_any E r A limit s n hn w h hE hX)
  have HTK := Lib.hid (fun g s1 W (hg : g.1.size ≤ 200000 ∧ g.2.size ≤ 200000) (hr : Rg' W r A limit s1) (he : Env W E) => take_any E r A limit s1 (g, true) (by simp only []; omega) (by simp only []; omega) W hr he hX)
  have HENV := Lib.hid (fun W (hk : Kr r A w W) => h.env hE hk)
  have hT := h.tot
  clear h hE hX
  cases hh : namedS n s with
  | er c =>
    have HU : Hid (litS true n s = .er c) := Lib.hid (by unfold litS; rw [hh])
    rw [hh] at HH
    clear hh
    go_enter Tryd.func101, Tryd.ntmps101
    go_wp2_with fail
    refine HH.out.mono ?_
    rintro e w1 ⟨hk, rfl⟩
    go_wp2_with fail
    exact ⟨rfl, hk, by rw [HU.out]; rfl⟩
  | ok q =>
    obtain ⟨g, s1⟩ := q
    have hg := namedS_size hT hh
    have HU : Hid (litS true n s = takeS (g, true) s1) := Lib.hid (by unfold litS; rw [hh])
    rw [hh] at HH
    clear hh
    go_enter Tryd.func101, Tryd.ntmps101
    go_wp2_with fail
    refine HH.out.mono ?_
    rintro e w1 ⟨hk, rfl, hr⟩
    have hr1l := hr.lt
    have hbA : Below w1.heap.size w1 (w1.alloc (.cells #[.string g.1, .string g.2, .bool true] 77)) := (Below.refl _ _).alloc (Nat.le_refl _) _
    have HKA : Hid (Kr r A w1 (w1.alloc (.cells #[.string g.1, .string g.2, .bool true] 77))) := Lib.hid (Kr.of_below hbA hr1l)
    have HT1 := Lib.hid (HTK.out g s1 _ hg (hr.below hbA) (HENV.out _ (hk.trans HKA.out)))
    clear HH HTK hbA
    cases ht : takeS (g, true) s1 with
    | er c =>
      rw [ht] at HT1 HU
      clear ht
      go_wp2_with fail
      refine HT1.out.mono ?_
      rintro e w2 ⟨hk2, rfl⟩
      go_wp2_with fail
      exact ⟨rfl, (hk.trans HKA.out).trans hk2, by rw [HU.out]; rfl⟩
    | ok q2 =>
      obtain ⟨_, s2⟩ := q2
      rw [ht] at HT1 HU
      clear ht
      go_wp2_with fail
      refine HT1.out.mono ?_
      rintro e w2 ⟨hk2, rfl, hr2⟩
      go_wp2_with fail
      go_end0
      exact ⟨(hk.trans HKA.out).trans hk2, by rw [HU.out]; exact ⟨rfl, hr2⟩⟩
end Go.Proofs.YtlkieeindnpidaaDoor

namespace Go.Proofs.YtlkieeindnpidaaDoor
open Go.RowKit Tt Hu Hu.Hf

theorem Rg'.tab {w w' : World} {r A limit : Nat} {s : RS} (h : Rg' w r A limit s) (hk : Kp A w w') (m : Nat) (M : List Hd) (hh : Has w' A m M) (hm : m ≤ 4096) : Rg' w' r A limit { s with m := m, M := M } := by
  obtain ⟨la, ln, lc, a0, a1, a2⟩ := h.c0
  obtain ⟨u, a3, a4⟩ := h.c3
  have hA := h.ne
  have hr := hk.block r h.lt (by omega)
  exact ⟨⟨la, ln, lc, (World.cell?_of_block (a := ⟨r, 0, none⟩) hr).trans a0, sl_kp a1 hk (fun p hp h0 => (a2 p hp h0).2), a2⟩, (World.cell?_of_block (a := ⟨r, 1, none⟩) hr).trans h.c1, (World.cell?_of_block (a := ⟨r, 2, none⟩) hr).trans h.c2,
    ⟨u, (World.cell?_of_block (a := ⟨r, 3, none⟩) hr).trans a3, a4.kp hk (by omega)⟩, (World.cell?_of_block (a := ⟨r, 4, none⟩) hr).trans h.c4, fun j => (World.frozen?_of_block (a := ⟨r, j, none⟩) hr).trans (h.z j), hh, h.ne, hm, h.lim, h.len, h.sz, h.ol, h.glob⟩

set_option maxRecDepth 100000 in
set_option maxHeartbeats 2000000 in
theorem added_any (E : Nat → Value) (r A limit : Nat) (s : RS) (n : Nat) (hn : n ≤ 2147483647) (w : World) (h : Rg' w r A limit s) (hE : Env w E) (hX : Errs E) :
    Calls Tryd.prog 99 #[.pointer (some ⟨r, 0, none⟩), .int .i64 (n : Int)] w (Step E r A limit unitV (addedS n s) w) := by
  have HH := Lib.hid (named_any E r A limit s n hn w h hE hX)
  have HTK := Lib.hid (fun g s1 W (hg : g.1.size ≤ 200000 ∧ g.2.size ≤ 200000) (hr : Rg' W r A limit s1) (he : Env W E) => take_any E r A limit s1 (g, false) (by simp only []; omega) (by simp only []; omega) W hr he hX)
  have HENV := Lib.hid (fun W (hk : Kr r A w W) => h.env hE hk)
  have hT := h.tot
  have hAr := h.ne
  clear h hE hX
  cases hh : namedS n s with
  | er c =>
    have HU : Hid (addedS n s = .er c) := Lib.hid (by unfold addedS; rw [hh])
    rw [hh] at HH
    clear hh
    go_enter Tryd.func99, Tryd.ntmps99
    go_wp2_with fail
    refine HH.out.mono ?_
    rintro e w1 ⟨hk, rfl⟩
    go_wp2_with fail
    exact ⟨rfl, hk, by rw [HU.out]; rfl⟩
  | ok q =>
    obtain ⟨g, s1⟩ := q
    have hg := namedS_size hT hh
    have HU : Hid (addedS n s = match takeS (g, false) s1 with
      | .er c => .er c
      | .ok (_, s2) => .ok ((), { s2 with M := addM s2.m s2.M g })) := Lib.hid (by unfold addedS; rw [hh] <;> rfl)
    rw [hh] at HH
    clear hh
    go_enter Tryd.func99, Tryd.ntmps99
    go_wp2_with fail
    refine HH.out.mono ?_
    rintro e w1 ⟨hk, rfl, hr⟩
    have hr1l := hr.lt
    have hbA : Below w1.heap.size w1 (w1.alloc (.cells #[.string g.1, .string g.2, .bool false] 77)) := (Below.refl _ _).alloc (Nat.le_refl _) _
    have HKA : Hid (Kr r A w1 (w1.alloc (.cells #[.string g.1, .string g.2, .bool false] 77))) := Lib.hid (Kr.of_below hbA hr1l)
    have HT1 := Lib.hid (HTK.out g s1 _ hg (hr.below hbA) (HENV.out _ (hk.trans HKA.out)))
    have HBX := Lib.hid (Bx.new w1 (.string g.1) (.string g.2) (.bool false) 77)
    have HLV : Hid ((lv r (w1.alloc (.cells #[.string g.1, .string g.2, .bool false] 77))).ownBlock ≠ some w1.heap.size) := Lib.hid (by rw [lv_alloc hr1l]; exact hr.own_ne (Or.inr (Nat.le_refl _)))
    clear HH HTK hbA
    cases ht : takeS (g, false) s1 with
    | er c =>
      rw [ht] at HT1 HU
      clear ht
      go_wp2_with fail
      refine HT1.out.mono ?_
      rintro e w2 ⟨hk2, rfl⟩
      go_wp2_with fail
      exact ⟨rfl, (hk.trans HKA.out).trans hk2, by rw [HU.out]; rfl⟩
    | ok q2 =>
      obtain ⟨_, s2⟩ := q2
      rw [ht] at HT1 HU
      simp only at HU
      clear ht
      go_wp2_with fail
      refine HT1.out.mono ?_
      rintro e w2 ⟨hk2, rfl, hr2⟩
      obtain ⟨hbk, _⟩ := hk2.box (k := w1.heap.size) (by simp) (by omega) hr1l HLV.out
      have F := HBX.out.keep hbk
      have f0 := F.c0
      have f1 := F.c1
      have f2 := F.c2
      have c1 := hr2.c1
      have hr2l := hr2.lt
      have HR2 := Lib.hid hr2
      have HKK := Lib.hid ((hk.trans HKA.out).trans hk2)
      generalize w1.heap.size = Hb at f0 f1 f2 hr1l ⊢
      have HADT : Hid (∀ W, Below w2.heap.size w2 W → Calls Tryd.prog 81 #[.pointer (some ⟨A, 0, none⟩), hdN g false] W fun e w' => e = .returned (.tuple #[]) ∧ Has w' A s2.m (addM s2.m s2.M g) ∧ Kp A W w') := Lib.hid (fun W hW => has_add (HR2.out.has.below hW) HR2.out.m g false (by omega) (by omega))
      clear HT1 hk hk2 hr2 hr F HBX HLV HKA HENV hbk
      go_upto_region 2 with fail
      go_region_law (go_simp; (with_reducible_and_instances refine Calls.mono (HADT.out _ (by first | assumption | exact Below.refl _ _ | exact Below.drew (Below.refl _ _))) ?_); rintro e w6 ⟨rfl, hA6, hk6⟩; go_simp)
      all_goals
        have hk26 : Kp A w2 w6 := ((Kp.refl A w2).drew).trans hk6
        go_wp2_with fail
        go_end0
        exact ⟨HKK.out.trans (Kr.of_kp hk26 (by omega) hr2l), by rw [HU.out]; exact ⟨rfl, HR2.out.tab hk26 _ _ hA6 HR2.out.m⟩⟩

set_option maxRecDepth 100000 in
set_option maxHeartbeats 2000000 in
theorem resized_any (E : Nat → Value) (r A limit : Nat) (s : RS) (n : Nat) (w : World) (h : Rg' w r A limit s) (hE : Env w E) (hX : Errs E) :
    Calls Tryd.prog 100 #[.pointer (some ⟨r, 0, none⟩), .int .i64 (n : Int)] w (Step E r A limit unitV (resizedS limit n s) w) := by
  have c1 := h.c1
  have c2 := h.c2
  obtain ⟨v, c3, hown⟩ := h.c3
  obtain ⟨ad, cp, hv, _⟩ := hown.ns
  subst hv
  have hlt := h.lt
  have hlim := h.lim
  have HR := Lib.hid h
  have hAr := h.ne
  obtain ⟨ty, p, hx⟩ := hX 109
  have hcE := hE.c109
  rw [hx] at hcE
  have HX := Lib.hid hx
  have HRU : Hid (resizedS limit n s = if 0 < s.out.length ∨ limit < n then .er 109 else .ok ((), { s with m := n, M := shr n s.M })) := Lib.hid rfl
  have HRS := Lib.hid (fun (hn : n ≤ 4096) => has_resize h.has h.m n hn)
  have hol := h.ol
  have hsz := h.sz
  generalize hL : s.out.length = L at c3 HRU hol
  clear h hE hX hx hown hL
  by_cases h1 : 0 < L
  · have HU : Hid (resizedS limit n s = .er 109) := Lib.hid (by rw [HRU.out, if_pos (Or.inl h1)])
    clear HRU
    go_enter Tryd.func100, Tryd.ntmps100
    go_wp2_with fail
    refine (giveUp_any ty p _).mono ?_
    rintro e w' ⟨rfl, rfl⟩
    go_wp2_with fail
    exact ⟨rfl, Kr.of_below (Below.refl _ _) hlt, by rw [HU.out]; show _ = _; rw [HX.out]⟩
  · obtain rfl : L = 0 := by omega
    by_cases h2 : limit < n
    · have HU : Hid (resizedS limit n s = .er 109) := Lib.hid (by rw [HRU.out, if_pos (Or.inr h2)])
      have hdc : decide (limit < n) = true := by simpa using h2
      clear HRU
      go_enter Tryd.func100, Tryd.ntmps100
      go_wp2_with fail
      refine (giveUp_any ty p _).mono ?_
      rintro e w' ⟨rfl, rfl⟩
      go_wp2_with fail
      exact ⟨rfl, Kr.of_below (Below.refl _ _) hlt, by rw [HU.out]; show _ = _; rw [HX.out]⟩
    · have HU : Hid (resizedS limit n s = .ok ((), { s with m := n, M := shr n s.M })) := Lib.hid (by rw [HRU.out, if_neg (by simp; omega)])
      have hdc : decide (limit < n) = false := by simpa using h2
      have HRS2 := Lib.hid (HRS.out (by omega))
      clear HRU HRS hcE
      go_enter Tryd.func100, Tryd.ntmps100
      go_wp2_with fail
      refine HRS2.out.mono ?_
      rintro e w1 ⟨rfl, hA, hk⟩
      go_wp2_with fail
      go_end0
      exact ⟨Kr.of_kp hk (by omega) hlt, by rw [HU.out]; exact ⟨rfl, HR.out.tab hk _ _ hA (by omega)⟩⟩
end Go.Proofs.YtlkieeindnpidaaDoor

namespace Go.Proofs.YtlkieeindnpidaaDoor
open Go.RowKit Tt Hu Hu.Hf

def kindOf (c : Nat) : Nat := if 128 ≤ c then 0 else if 64 ≤ c then 1 else if 32 ≤ c then 2 else if 16 ≤ c then 3 else 4
def bitsK : Nat → Nat
  | 0 => 7
  | 1 => 6
  | 2 => 5
  | _ => 4
def fstK : Nat → Nat
  | 0 => 128
  | 1 => 64
  | 2 => 32
  | 3 => 16
  | _ => 0
def readK (limit k n : Nat) (s : RS) : Res (Unit × RS) := match k with
  | 0 => indexedS n s
  | 1 => addedS n s
  | 2 => resizedS limit n s
  | 3 => litS true n s
  | _ => litS false n s
def stepS (limit : Nat) (s : RS) : Res (Unit × RS) := match s.left with
  | [] => .ok ((), s)
  | c :: _ => match numS (bitsK (kindOf c.toNat)) s with
    | .er e => .er e
    | .ok (n, s1) => readK limit (kindOf c.toNat) n s1
def allS (limit : Nat) : Nat → RS → Res (Unit × RS)
  | 0, s => .ok ((), s)
  | f + 1, s => if s.left.length = 0 then .ok ((), s) else match stepS limit s with
    | .er c => .er c
    | .ok (_, s1) => allS limit f s1
theorem takeS_left {h : Hn} {s s1 : RS} {u : Unit} (e : takeS h s = .ok (u, s1)) : s1.left = s.left := by
  unfold takeS at e
  split at e
  · cases e
  · cases e; rfl
theorem textS_left {s s1 : RS} {t : ByteArray} (e : textS s = .ok (t, s1)) : s1.left.length ≤ s.left.length := by
  unfold textS at e
  cases hi : getText s.left with
  | er c => rw [hi] at e; cases e
  | ok p => obtain ⟨t', k⟩ := p; rw [hi] at e; cases e; simp
theorem namedS_left {s s1 : RS} {n : Nat} {g : Hd} (e : namedS n s = .ok (g, s1)) : s1.left.length ≤ s.left.length := by
  unfold namedS at e
  split at e
  · cases h1 : textS s with
    | er c => rw [h1] at e; cases e
    | ok q =>
      obtain ⟨t, s2⟩ := q
      rw [h1] at e
      simp only at e
      cases h2 : textS s2 with
      | er c => rw [h2] at e; cases e
      | ok q2 =>
        obtain ⟨v, s3⟩ := q2
        rw [h2] at e
        cases e
        exact Nat.le_trans (textS_left h2) (textS_left h1)
  · cases h1 : getM s.M (n : Int) with
    | none => rw [h1] at e; cases e
    | some g' =>
      rw [h1] at e
      simp only at e
      cases h2 : textS s with
      | er c => rw [h2] at e; cases e
      | ok q2 =>
        obtain ⟨v, s3⟩ := q2
        rw [h2] at e
        cases e
        exact textS_left h2
theorem litS_left {nv : Bool} {s s1 : RS} {n : Nat} {u : Unit} (e : litS nv n s = .ok (u, s1)) : s1.left.length ≤ s.left.length := by
  unfold litS at e
  cases h1 : namedS n s with
  | er c => rw [h1] at e; cases e
  | ok q =>
    obtain ⟨g, s2⟩ := q
    rw [h1] at e
    simp only at e
    rw [takeS_left e]
    exact namedS_left h1
theorem readK_left {limit k n : Nat} {s s1 : RS} {u : Unit} (e : readK limit k n s = .ok (u, s1)) : s1.left.length ≤ s.left.length := by
  unfold readK at e
  split at e
  · unfold indexedS at e
    cases h1 : headS n s with
    | er c => rw [h1] at e; cases e
    | ok q =>
      obtain ⟨g, s2⟩ := q
      rw [h1] at e
      simp only at e
      rw [takeS_left e]
      unfold headS at h1
      split at h1
      · cases h1
      · cases h1; exact Nat.le_refl _
  · unfold addedS at e
    cases h1 : namedS n s with
    | er c => rw [h1] at e; cases e
    | ok q =>
      obtain ⟨g, s2⟩ := q
      rw [h1] at e
      simp only at e
      cases h2 : takeS (g, false) s2 with
      | er c => rw [h2] at e; cases e
      | ok q2 =>
        obtain ⟨_, s3⟩ := q2
        rw [h2] at e
        cases e
        show s3.left.length ≤ _
        rw [takeS_left h2]
        exact namedS_left h1
  · unfold resizedS at e
    split at e
    · cases e
    · cases e; exact Nat.le_refl _
  · exact litS_left e
  · exact litS_left e
theorem numS_left {bits : Nat} (hb : bits ≤ 8) {s s1 : RS} {n : Nat} (e : numS bits s = .ok (n, s1)) : s1.left.length < s.left.length ∧ n ≤ 2147483647 := by
  unfold numS at e
  cases hi : getInt bits s.left with
  | er c => rw [hi] at e; cases e
  | ok p =>
    obtain ⟨n', k⟩ := p
    have := getInt_ok hb hi
    rw [hi] at e
    cases e
    simp
    omega
theorem bitsK_le (k : Nat) : 1 ≤ bitsK k ∧ bitsK k ≤ 8 := by unfold bitsK; split <;> omega
theorem stepS_left {limit : Nat} {s s1 : RS} {u : Unit} (hl : s.left.length ≠ 0) (e : stepS limit s = .ok (u, s1)) : s1.left.length < s.left.length := by
  unfold stepS at e
  split at e
  · rename_i h; rw [h] at hl; simp at hl
  · rename_i c t h
    cases h1 : numS (bitsK (kindOf c.toNat)) s with
    | er c => rw [h1] at e; cases e
    | ok q =>
      obtain ⟨n, s2⟩ := q
      rw [h1] at e
      simp only at e
      have := numS_left (bitsK_le _).2 h1
      have := readK_left e
      omega
theorem allS_fuel (limit : Nat) : ∀ (f : Nat) (s : RS), s.left.length ≤ f → allS limit f s = allS limit s.left.length s
  | 0, s, h => by rw [show s.left.length = 0 by omega]
  | f + 1, s, h => by
    have e1 : ∀ f, allS limit (f + 1) s = (if s.left.length = 0 then .ok ((), s) else match stepS limit s with
      | .er c => .er c
      | .ok (_, s1) => allS limit f s1) := fun _ => rfl
    rcases Nat.eq_zero_or_pos s.left.length with hl | hl
    · rw [e1, if_pos hl, hl]; rfl
    · obtain ⟨m, hm⟩ : ∃ m, s.left.length = m + 1 := ⟨s.left.length - 1, by omega⟩
      rw [hm, e1, e1, if_neg (by omega), if_neg (by omega)]
      cases hs : stepS limit s with
      | er c => rfl
      | ok q =>
        obtain ⟨u, s1⟩ := q
        have := stepS_left (by omega) hs
        show allS limit f s1 = allS limit m s1
        rw [allS_fuel limit f s1 (by omega), allS_fuel limit m s1 (by omega)]
theorem kindOf_lt (c : Nat) : kindOf c < 5 := by unfold kindOf; repeat (split <;> try omega)
theorem kindOf_ge (c j : Nat) (h : j < kindOf c) : c < fstK j := by
  have h5 := kindOf_lt c
  have hj : j = 0 ∨ j = 1 ∨ j = 2 ∨ j = 3 := by omega
  unfold kindOf at h
  rcases hj with rfl | rfl | rfl | rfl <;> (simp only [fstK]; repeat (split at h <;> try omega))
theorem kindOf_eq (c : Nat) : ¬ c < fstK (kindOf c) := by
  unfold kindOf
  repeat (split <;> try (simp only [fstK]; omega))

def fnK : Nat → FuncId
  | 0 => 98
  | 1 => 99
  | 2 => 100
  | 3 => 101
  | _ => 102
/-- The list of kinds at block K. -/
structure Kc (w : World) (K : Nat) : Prop where
  c0 : ∀ k, k < 5 → w.cell? ⟨K, k * 3, none⟩ = some (.int .u8 ((fstK k : Nat) : Int))
  c1 : ∀ k, k < 5 → w.cell? ⟨K, k * 3 + 1, none⟩ = some (.int .i64 ((bitsK k : Nat) : Int))
  c2 : ∀ k, k < 5 → w.cell? ⟨K, k * 3 + 2, none⟩ = some (.func (.func (fnK k)) #[] #[])
theorem Kc.keep {w w' : World} {K : Nat} (h : Kc w K) (hb : w'.heap[K]? = w.heap[K]?) : Kc w' K :=
  ⟨fun k hk => (World.cell?_of_block (a := ⟨K, k * 3, none⟩) hb).trans (h.c0 k hk), fun k hk => (World.cell?_of_block (a := ⟨K, k * 3 + 1, none⟩) hb).trans (h.c1 k hk), fun k hk => (World.cell?_of_block (a := ⟨K, k * 3 + 2, none⟩) hb).trans (h.c2 k hk)⟩
set_option maxRecDepth 100000 in
theorem kinds_any (w : World) : Calls Tryd.prog 84 #[] w fun e w' => e = .returned (.slice (some ⟨w.heap.size, 0, none⟩) 5 5) ∧ Kc w' w.heap.size ∧ Below w.heap.size w w' ∧ w.heap.size < w'.heap.size := by
  go_enter Tryd.func84, Tryd.ntmps84
  go_wp2
  go_ret
  refine ⟨rfl, ⟨?_, ?_, ?_⟩, (Below.refl _ _).alloc (Nat.le_refl _) _, by simp⟩
  all_goals
    intro k hk
    have h5 : k = 0 ∨ k = 1 ∨ k = 2 ∨ k = 3 ∨ k = 4 := by omega
    rcases h5 with rfl | rfl | rfl | rfl | rfl <;> simp [fstK, bitsK, fnK]
/-- The bytes that are left: for a measure. -/
def leftN (w : World) (r : Nat) : Nat := match w.cell? ⟨r, 0, none⟩ with
  | some (.slice _ n _) => n
  | _ => 0
theorem leftN_of {w : World} {r A limit : Nat} {s : RS} (h : Rg' w r A limit s) : leftN w r = s.left.length := by
  obtain ⟨la, ln, lc, a0, a1, _⟩ := h.c0
  unfold leftN
  rw [a0]
  exact a1.len.symm
theorem read_any (E : Nat → Value) (r A limit k : Nat) (hk : k < 5) (s : RS) (n : Nat) (hn : n ≤ 2147483647) (w : World) (h : Rg' w r A limit s) (hE : Env w E) (hX : Errs E) :
    Calls Tryd.prog (fnK k) #[.pointer (some ⟨r, 0, none⟩), .int .i64 (n : Int)] w (Step E r A limit unitV (readK limit k n s) w) := by
  have h5 : k = 0 ∨ k = 1 ∨ k = 2 ∨ k = 3 ∨ k = 4 := by omega
  rcases h5 with rfl | rfl | rfl | rfl | rfl
  · exact indexed_any E r A limit s n hn w h hE hX
  · exact added_any E r A limit s n hn w h hE hX
  · exact resized_any E r A limit s n w h hE hX
  · exact never_any E r A limit s n hn w h hE hX
  · exact plain_any E r A limit s n hn w h hE hX
theorem fnK_enter (k : Nat) (hk : k < 5) (args : Array Value) (W : World) : (callFunc (fnK k) args).run Tryd.prog W = .ok (.enter (fnK k) args) W := by
  have h5 : k = 0 ∨ k = 1 ∨ k = 2 ∨ k = 3 ∨ k = 4 := by omega
  rcases h5 with rfl | rfl | rfl | rfl | rfl
  · show (callFunc 98 args).run Tryd.prog W = .ok (.enter 98 args) W
    kernel_rfl
  · show (callFunc 99 args).run Tryd.prog W = .ok (.enter 99 args) W
    kernel_rfl
  · show (callFunc 100 args).run Tryd.prog W = .ok (.enter 100 args) W
    kernel_rfl
  · show (callFunc 101 args).run Tryd.prog W = .ok (.enter 101 args) W
    kernel_rfl
  · show (callFunc 102 args).run Tryd.prog W = .ok (.enter 102 args) W
    kernel_rfl
/-- The rounds. -/
def AllRel (E : Nat → Value) (r A limit K : Nat) (s : RS) (w wr : World) : Prop := ∃ s', Rg' wr r A limit s' ∧ Env wr E ∧ Kr r A w wr ∧ Kc wr K ∧ K < wr.heap.size ∧ (lv r wr).ownBlock ≠ some K ∧ Hid (allS limit s.left.length s = allS limit s'.left.length s')
/-- The inner rounds. -/
def KinRel (k : Nat) (wo : World) (s3 : Value) (wr : World) : Prop := ∃ j : Nat, s3 = .int .i64 (j : Int) ∧ j ≤ k ∧ Below wo.heap.size wo wr
set_option maxRecDepth 100000 in
set_option maxHeartbeats 8000000 in
theorem all_any (E : Nat → Value) (r A limit : Nat) (s : RS) (w : World) (h : Rg' w r A limit s) (hE : Env w E) (hX : Errs E) :
    Calls Tryd.prog 62 #[.pointer (some ⟨r, 0, none⟩)] w (Step E r A limit unitV (allS limit s.left.length s) w) := by
  have hlt := h.lt
  have hAr := h.ne
  have HR := Lib.hid h
  have HE := Lib.hid hE
  clear h hE
  go_enter Tryd.func62, Tryd.ntmps62
  go_wp2_with fail
  refine (kinds_any _).mono ?_
  rintro e w1 ⟨rfl, hkc, hb1, hlk⟩
  have hl1 : (lv r w1).ownBlock ≠ some w.heap.size := by
    have e : lv r w1 = lv r w := by unfold lv; rw [hb1.cell (p := ⟨r, 3, none⟩) hlt]
    rw [e]; exact HR.out.own_ne (Or.inr (Nat.le_refl _))
  have hrel0 : AllRel E r A limit w.heap.size s w w1 := ⟨s, HR.out.below hb1, HE.out.kept hb1, Kr.of_below hb1 hlt, hkc, hlk, hl1, Lib.hid rfl⟩
  generalize w.heap.size = K at hkc hrel0 hl1 hlk hlt ⊢
  have HREL := Lib.hid hrel0
  clear hkc hb1 hl1 hrel0 hlk
  go_wp2_with fail
  go_loopw [] (fun wr => AllRel E r A limit K s w wr) (fun wr => leftN wr r)
  case atStart => exact HREL.out
  case round =>
    obtain ⟨s', hr', hE', hk', hkc, hKl, hlv, hrun⟩ := hrel
    obtain ⟨la, ln, lc, a0, a1, a2⟩ := hr'.c0
    have hlen := a1.len
    have hl6 := hr'.len
    have hrl := hr'.lt
    by_cases h0 : ln = 0
    · subst h0
      have HRUN : Hid (allS limit s.left.length s = .ok ((), s')) := Lib.hid (by rw [hrun.out, hlen]; rfl)
      have HR' := Lib.hid hr'
      have HK' := Lib.hid hk'
      clear hr' hE' hk' hkc hlv hrun a1 a2 HREL
      go_wp2_with fail
      go_end0
      exact ⟨HK'.out, by rw [HRUN.out]; exact ⟨rfl, HR'.out⟩⟩
    · obtain ⟨b, o, rfl⟩ := a1.some (by omega)
      have e0 := a1.cell (i := 0) (by omega)
      rw [Nat.add_zero] at e0
      obtain ⟨c, t, hct⟩ : ∃ c t, s'.left = c :: t := by
        cases hh : s'.left with
        | nil => rw [hh] at hlen; simp at hlen; omega
        | cons c t => exact ⟨c, t, rfl⟩
      have hg0 : s'.left[0]'(by omega) = c := by simp [hct]
      rw [hg0] at e0
      have HST : Hid (stepS limit s' = match numS (bitsK (kindOf c.toNat)) s' with
        | .er e => .er e
        | .ok (n, s1) => readK limit (kindOf c.toNat) n s1) := Lib.hid (by unfold stepS; rw [hct])
      have hge := fun j => kindOf_ge c.toNat j
      have heq := kindOf_eq c.toNat
      have hk5 := kindOf_lt c.toNat
      have hcl := c.toNat_lt
      have HRUN : Hid (allS limit s.left.length s = match stepS limit s' with
        | .er c => .er c
        | .ok (_, s1) => allS limit s1.left.length s1) := Lib.hid (by
          rw [hrun.out]
          obtain ⟨m, hm⟩ : ∃ m, s'.left.length = m + 1 := ⟨s'.left.length - 1, by omega⟩
          have e1 : allS limit (m + 1) s' = (if s'.left.length = 0 then .ok ((), s') else match stepS limit s' with
            | .er c => .er c
            | .ok (_, s1) => allS limit m s1) := rfl
          rw [hm, e1, if_neg (by omega)]
          cases hs : stepS limit s' with
          | er c => rfl
          | ok q =>
            obtain ⟨u, s1⟩ := q
            have := stepS_left (by omega) hs
            exact allS_fuel limit m s1 (by omega))
      generalize kindOf c.toNat = k at HST hge heq hk5
      have HGE := Lib.hid hge
      have HKC := Lib.hid hkc
      have HR' := Lib.hid hr'
      have HE' := Lib.hid hE'
      have HK' := Lib.hid hk'
      have HLV := Lib.hid hlv
      have hln : (0 : Int) < (ln : Int) := by omega
      clear hge hkc hr' hE' hk' hlv hrun a1 a2 HREL hct hg0
      go_wp2_with fail
      obtain ⟨wo, rfl⟩ : ∃ wo : World, wo = wr := ⟨_, rfl⟩
      go_loopw [3] (fun s3 wr => KinRel k wo s3 wr) (fun s3 _ => 5 - (intOf s3).toNat)
      case atStart => exact ⟨0, rfl, by omega, Below.refl _ _⟩
      case round =>
        obtain ⟨j, rfl, hjk, hbj⟩ := hrel
        have d0 := (hbj.cell (p := ⟨r, 0, none⟩) hrl).trans a0
        have d1 := (hbj.cell (p := ⟨b, o, none⟩) (Hu.cell_lt e0)).trans e0
        have d2 := (HKC.out.keep (hbj.block K hKl)).c0 j (by omega)
        have hia : (0 : Int) ≤ (j : Int) := by omega
        have hib : (j : Int) < 5 := by omega
        by_cases hlt2 : j < k
        · have hcf := HGE.out j hlt2
          generalize fstK j = f at d2 hcf
          have hdc : decide (c.toNat < f) = true := by simpa using hcf
          have HB := Lib.hid hbj
          clear hbj
          go_wp2_with fail
          go_quiet (fail)
          all_goals go_wp2_with fail
          all_goals exact ⟨⟨j + 1, by go_num, by omega, (by repeat (first | exact HB.out | (refine Hu.bdN ?_ _) | (refine Below.drew ?_)))⟩, by simp [intOf]; omega⟩
        · obtain rfl : j = k := by omega
          generalize fstK j = f at d2 heq
          have hdc : decide (c.toNat < f) = false := by simpa using heq
          have HB := Lib.hid hbj
          clear hbj
          go_wp2_with fail
          go_quiet (fail)
          have g1 := (HKC.out.keep (HB.out.block K hKl)).c1 j (by omega)
          have g2 := (HKC.out.keep (HB.out.block K hKl)).c2 j (by omega)
          have HNU := Lib.hid (fun W (hW : Below wo.heap.size wo W) => number_any E r A limit s' (bitsK j) (bitsK_le j).1 (bitsK_le j).2 W (HR'.out.below hW) (HE'.out.kept hW) hX)
          have HRD := Lib.hid (fun s1 n (hn : n ≤ 2147483647) W (hr : Rg' W r A limit s1) (he : Env W E) => read_any E r A limit j hk5 s1 n hn W hr he hX)
          have hbd : ∀ q, Below wo.heap.size wo (wr.drewN q) := fun q => Hu.bdN HB.out q
          have HBD := Lib.hid hbd
          clear d0 d1 d2 hbd hdc heq hX e0 a0
          cases hnu : numS (bitsK j) s' with
          | er cc =>
            have HU : Hid (allS limit s.left.length s = .er cc) := Lib.hid (by rw [HRUN.out, HST.out, hnu])
            rw [hnu] at HNU
            clear HRUN HST hnu HRD
            all_goals go_upto_region 5 with fail
            all_goals go_region_law (go_simp; (with_reducible_and_instances refine Calls.mono (HNU.out _ (by first | exact HBD.out _ | exact Below.drew (HBD.out _))) ?_); rintro e w6 ⟨hk6, rfl⟩; go_simp; (refine (fun (_ : wpAny Tryd.prog Region.Mode.any #[] (fun _ _ _ => True) 0 #[] ⟨#[], []⟩ w6) => ?_) ?_); exact ⟨rfl, HK'.out.trans ((Kr.of_below (by first | exact HBD.out _ | exact Below.drew (HBD.out _)) hrl).trans hk6), by rw [HU.out]; rfl⟩)
            all_goals trivial
          | ok q =>
            obtain ⟨n, s1⟩ := q
            have hnl := numS_left (bitsK_le j).2 hnu
            obtain ⟨hnl1, hnl2⟩ := hnl
            rw [hnu] at HNU HST
            simp only at HST
            clear hnu
            have hcf := fun args W => fnK_enter j hk5 args W
            have HN2 : Hid (∀ W, Below wo.heap.size wo W → Calls Tryd.prog 85 #[.pointer (some ⟨r, 0, none⟩), .int .i64 ((bitsK j : Nat) : Int)] W fun e w' => e = .returned (.int .i64 (n : Int)) ∧ Rg' w' r A limit s1 ∧ Env w' E ∧ Kr r A wo w' ∧ Kc w' K ∧ K < w'.heap.size ∧ (lv r w').ownBlock ≠ some K) := Lib.hid (fun W hW => by
              refine (HNU.out W hW).mono ?_
              rintro e w' ⟨hk6, rfl, hr6⟩
              have hkW := Kr.of_below (A := A) hW hrl
              have hkk := hkW.trans hk6
              obtain ⟨hbk, hlv6⟩ := hkk.block K hKl (by have := hlt; omega) (by omega) HLV.out
              exact ⟨rfl, hr6, HR'.out.env HE'.out hkk, hkk, HKC.out.keep hbk, Nat.lt_of_lt_of_le hKl hkk.size, hlv6⟩)
            clear HNU
            cases hrd : readK limit j n s1 with
            | er cc =>
              have HU : Hid (allS limit s.left.length s = .er cc) := Lib.hid (by rw [HRUN.out, HST.out, hrd])
              have HRD2 := Lib.hid (fun W (hr : Rg' W r A limit s1) (he : Env W E) => HRD.out s1 n hnl2 W hr he)
              rw [hrd] at HRD2
              clear HRUN HST hrd HRD
              all_goals go_upto_region 5 with fail
              all_goals go_region_law (first
                | (go_simp; (with_reducible_and_instances refine Calls.mono (HN2.out _ (by first | exact HBD.out _ | exact Below.drew (HBD.out _))) ?_); rintro e w6 ⟨rfl, hr6, he6, hk6, hkc6, hK6, hl6⟩; have c61 := hkc6.c1 j hk5; have c62 := hkc6.c2 j hk5; go_simp)
                | (go_simp; (with_reducible_and_instances refine Calls.mono (HRD2.out _ (by assumption) (by assumption)) ?_); rintro e w7 ⟨hk7, rfl⟩; go_simp; (refine (fun (_ : wpAny Tryd.prog Region.Mode.any #[] (fun _ _ _ => True) 0 #[] ⟨#[], []⟩ w7) => ?_) ?_); exact ⟨rfl, HK'.out.trans (Kr.trans (by assumption) hk7), by rw [HU.out]; rfl⟩))
              all_goals trivial
            | ok q2 =>
              obtain ⟨u, s2⟩ := q2
              have hsl := readK_left hrd
              have HSL : Hid (s2.left.length < s'.left.length) := Lib.hid (by omega)
              have HU : Hid (allS limit s.left.length s = allS limit s2.left.length s2) := Lib.hid (by rw [HRUN.out, HST.out, hrd])
              have HRD2 : Hid (∀ W, Rg' W r A limit s1 → Env W E → Kr r A wo W → Kc W K → K < W.heap.size → (lv r W).ownBlock ≠ some K → Calls Tryd.prog (fnK j) #[.pointer (some ⟨r, 0, none⟩), .int .i64 (n : Int)] W fun e w' => e = .returned (.tuple #[]) ∧ AllRel E r A limit K s w w' ∧ leftN w' r = s2.left.length) := Lib.hid (fun W hr he hk hkc hK hl => by
                have hc := HRD.out s1 n hnl2 W hr he
                rw [hrd] at hc
                refine hc.mono ?_
                rintro e w' ⟨hk7, rfl, hr7⟩
                obtain ⟨hbk, hl7⟩ := hk7.block K hK (by omega) (by omega) hl
                exact ⟨rfl, ⟨s2, hr7, hr.env he hk7, HK'.out.trans (hk.trans hk7), hkc.keep hbk, Nat.lt_of_lt_of_le hK hk7.size, hl7, HU⟩, leftN_of hr7⟩)
              have HL0 := Lib.hid (leftN_of HR'.out)
              clear HRUN HST hrd HRD hsl
              all_goals go_upto_region 5 with fail
              all_goals go_region_law (first
                | (go_simp; (with_reducible_and_instances refine Calls.mono (HN2.out _ (by first | exact HBD.out _ | exact Below.drew (HBD.out _))) ?_); rintro e w6 ⟨rfl, hr6, he6, hk6, hkc6, hK6, hl6⟩; have c61 := hkc6.c1 j hk5; have c62 := hkc6.c2 j hk5; go_simp)
                | (go_simp; (with_reducible_and_instances refine Calls.mono (HRD2.out _ (by assumption) (by assumption) (by assumption) (by assumption) (by assumption) (by assumption)) ?_); rintro e w7 ⟨rfl, hrel7, hln7⟩; go_simp))
              all_goals
                go_wp2_with fail
                exact ⟨hrel7, by rw [hln7, HL0.out]; exact HSL.out⟩
end Go.Proofs.YtlkieeindnpidaaDoor
