/-
  CONTRACTS: the encoder.
-/
import Derived.Test.YtlkieeindnpidaaDoorB
import Derived.Test.YtlkieeindnpidaaDoorH
import Derived.Deep.RegionHeld3
namespace Go.Proofs.YtlkieeindnpidaaDoor
open Go.RowKit Tt Hu Hu.Hf

/-- What an encoder holds: its table's most and headers, oldest first; the least size that was asked for since the last block. -/
structure ES where
  m : Nat
  M : List Hd
  asked : Option Nat
/-- The bytes of a header by name and value. -/
def litB (first bits : Nat) (i : Nat) (h : Hd) : List UInt8 := pint first bits i ++ (if i = 0 then ptext h.1 else []) ++ ptext h.2
/-- P4.5: a header. -/
def encH (m : Nat) (M : List Hd) (h : Hn) : List UInt8 × List Hd :=
  if h.2 = true then (litB 16 4 (fnd h.1.1 h.1.2 (allL M)).1 h.1, M)
  else if (fnd h.1.1 h.1.2 (allL M)).2 = true then (pint 128 7 (fnd h.1.1 h.1.2 (allL M)).1, M)
  else if m < sizeH h.1 then (litB 0 4 (fnd h.1.1 h.1.2 (allL M)).1 h.1, M)
  else (litB 64 6 (fnd h.1.1 h.1.2 (allL M)).1 h.1, addM m M h.1)
def encL (m : Nat) (M : List Hd) : List Hn → List UInt8 × List Hd
  | [] => ([], M)
  | h :: t => ((encH m M h).1 ++ (encL m (encH m M h).2 t).1, (encL m (encH m M h).2 t).2)
def sizesB (s : ES) : List UInt8 := match s.asked with
  | none => []
  | some x => (if x < s.m then pint 32 5 x else []) ++ pint 32 5 s.m
/-- P4.5: the block of a list; what the encoder holds behind it. -/
def encode (s : ES) (l : List Hn) : List UInt8 × ES := (sizesB s ++ (encL s.m s.M l).1, ⟨s.m, (encL s.m s.M l).2, none⟩)
def resizeE (s : ES) (x : Nat) : ES := ⟨x, shr x s.M, some (match s.asked with | none => x | some y => min x y)⟩

/-- An encoder at block b, its table at block A. -/
structure Ec (w : World) (b A : Nat) (s : ES) : Prop where
  c0 : w.cell? ⟨b, 0, none⟩ = some (.pointer (some ⟨A, 0, none⟩))
  c1 : w.cell? ⟨b, 1, none⟩ = some (.bool s.asked.isSome)
  c2 : w.cell? ⟨b, 2, none⟩ = some (.int .i64 ((s.asked.getD 0 : Nat) : Int))
  z : ∀ i, w.frozen? ⟨b, i, none⟩ = false
  has : Has w A s.m s.M
  ne : A < b
  m : s.m ≤ 4096
  least : s.asked.getD 0 ≤ 4096
theorem Ec.lt {w : World} {b A : Nat} {s : ES} (h : Ec w b A s) : b < w.heap.size := Hu.cell_lt h.c0
theorem Ec.below {w w' : World} {b A : Nat} {s : ES} (h : Ec w b A s) (hb : Below w.heap.size w w') : Ec w' b A s :=
  ⟨(hb.cell (Hu.cell_lt h.c0)).trans h.c0, (hb.cell (Hu.cell_lt h.c1)).trans h.c1, (hb.cell (Hu.cell_lt h.c2)).trans h.c2, fun i => (hb.frozen (p := ⟨b, i, none⟩) (show b < w.heap.size from Hu.cell_lt h.c0)).trans (h.z i), h.has.below hb, h.ne, h.m, h.least⟩
/-- Below block B only blocks A and b may have turned. -/
structure Kq (B A b : Nat) (w w' : World) : Prop where
  os : w'.os = w.os
  tape : w'.tape = w.tape
  output : w'.output = w.output
  size : w.heap.size ≤ w'.heap.size
  block : ∀ k, k < B → k ≠ A → k ≠ b → w'.heap[k]? = w.heap[k]?
theorem Kq.refl (B A b : Nat) (w : World) : Kq B A b w w := ⟨rfl, rfl, rfl, Nat.le_refl _, fun _ _ _ _ => rfl⟩
theorem Kq.trans {B A b : Nat} {x y z : World} (h : Kq B A b x y) (k : Kq B A b y z) : Kq B A b x z :=
  ⟨k.os.trans h.os, k.tape.trans h.tape, k.output.trans h.output, Nat.le_trans h.size k.size, fun i hi h1 h2 => (k.block i hi h1 h2).trans (h.block i hi h1 h2)⟩
theorem Kq.of_below {B A b : Nat} {x y : World} (h : Below B x y) : Kq B A b x y := ⟨h.os, h.tape, h.output, h.size, fun k hk _ _ => h.block k hk⟩
theorem Kq.of_kp {B A b : Nat} {x y : World} (h : Kp A x y) (hB : B ≤ x.heap.size) : Kq B A b x y := ⟨h.os, h.tape, h.output, h.size, fun k hk h1 _ => h.block k (by omega) h1⟩
theorem Kq.of_kp' {B A b : Nat} {x y : World} (h : Kp b x y) (hB : B ≤ x.heap.size) : Kq B A b x y := ⟨h.os, h.tape, h.output, h.size, fun k hk _ h2 => h.block k (by omega) h2⟩
theorem Kq.below {B A b B' : Nat} {x y : World} (h : Kq B A b x y) (hA : B' ≤ A) (hb : B' ≤ b) (hB : B' ≤ B) : Below B' x y := ⟨h.os, h.tape, h.output, h.size, fun k hk => h.block k (by omega) (by omega) (by omega)⟩
theorem Kq.mono {B A b B' : Nat} {x y : World} (h : Kq B A b x y) (hB : B' ≤ B) : Kq B' A b x y := ⟨h.os, h.tape, h.output, h.size, fun k hk h1 h2 => h.block k (by omega) h1 h2⟩
/-- What writes at a block alone which the row does not lie in keeps it. -/
theorem own_kp {w w' : World} {A B : Nat} {v : Value} {l : List UInt8} (h : Hu.Own w B v l) (hk : Kp A w w') (hA : A < B) : Hu.Own w' B v l := by
  obtain ⟨h1, h2⟩ := h
  refine ⟨h1, ?_⟩
  rcases h2 with h2 | ⟨g, cap, cur, hv, hg, hh, r⟩
  · exact Or.inl h2
  · refine Or.inr ⟨g, cap, cur, hv, hg, ?_, r⟩
    have hl : g < w.heap.size := by
      rcases Nat.lt_or_ge g w.heap.size with h' | h'
      · exact h'
      · rw [Array.getElem?_eq_none h'] at hh; cases hh
    rw [hk.block g hl (by omega)]
    exact hh
theorem Ec.tab {w w' : World} {b A : Nat} {s : ES} {m : Nat} {M : List Hd} (h : Ec w b A s) (hk : Kp A w w') (hm : m ≤ 4096) (hh : Has w' A m M) : Ec w' b A ⟨m, M, s.asked⟩ := by
  have hl := h.lt
  have hb := hk.block b hl (by have := h.ne; omega)
  exact ⟨(World.cell?_of_block hb).trans h.c0, (World.cell?_of_block hb).trans h.c1, (World.cell?_of_block hb).trans h.c2, fun i => (World.frozen?_of_block hb).trans (h.z i), hh, h.ne, hm, h.least⟩
theorem Ec.old {w w' : World} {b A B : Nat} {s : ES} (h : Ec w b A s) (hb : Below B w w') (hB : b < B) : Ec w' b A s := by
  have hne := h.ne
  have hbb := hb.block b hB
  exact ⟨(World.cell?_of_block hbb).trans h.c0, (World.cell?_of_block hbb).trans h.c1, (World.cell?_of_block hbb).trans h.c2, fun i => (World.frozen?_of_block hbb).trans (h.z i), h.has.blk (hb.block A (by omega)), h.ne, h.m, h.least⟩
/-- 'asked, least' stored. -/
theorem Ec.ask {w : World} {b A : Nat} {s : ES} (h : Ec w b A s) (o : Option Nat) (ho : o.getD 0 ≤ 4096) :
    Ec ((w.setCell ⟨b, 1, none⟩ (.bool o.isSome)).setCell ⟨b, 2, none⟩ (.int .i64 ((o.getD 0 : Nat) : Int))) b A ⟨s.m, s.M, o⟩ := by
  refine ⟨?_, ?_, ?_, fun i => ?_, ?_, h.ne, h.m, ho⟩
  · rw [cell_setN _ _ _ _ _ (by omega), cell_setN _ _ _ _ _ (by omega)]; exact h.c0
  · rw [cell_setN _ _ _ _ _ (by omega)]; exact cell_setS _ _ _ _ _ h.c1
  · exact cell_setS _ _ _ _ _ (by rw [cell_setN _ _ _ _ _ (by omega)]; exact h.c2)
  · rw [World.frozen?_setCell, World.frozen?_setCell]; exact h.z i
  · refine h.has.blk ?_
    have hne := h.ne
    rw [Below.heap_setCell _ _ _ _ (by simp only []; omega), Below.heap_setCell _ _ _ _ (by simp only []; omega)]

set_option maxRecDepth 100000 in
theorem newEnc_yes (m : Nat) (h : m ≤ 4096) (w : World) : Calls Tryd.prog 24 #[.int .i64 (m : Int)] w fun e w' => ∃ b A, e = .returned (.tuple #[.pointer (some ⟨b, 0, none⟩), .nilIface]) ∧ Ec w' b A ⟨m, [], none⟩ ∧ w.heap.size ≤ A ∧ Below w.heap.size w w' := by
  have HN := Lib.hid (has_new m h w)
  go_enter Tryd.func24, Tryd.ntmps24
  go_wp2_with fail
  refine HN.out.mono ?_
  rintro e w1 ⟨rfl, hA, hb⟩
  have hlt := hA.lt
  go_wp2
  go_ret2
  refine ⟨w1.heap.size, w.heap.size, rfl, ⟨by simp, by simp, by simp, fun i => by simp, hA.below ((Below.refl _ _).alloc (Nat.le_refl _) _), hlt, h, by simp⟩, Nat.le_refl _, hb.alloc hb.size _⟩
theorem newEnc_no (m : Int) (h : m < 0 ∨ 4096 < m) (ty : TypeId) (p : Value) (w : World) (hE : w.cell? ⟨0, 0, none⟩ = some (.iface ty p)) : Calls Tryd.prog 24 #[.int .i64 m] w fun e w' => e = .returned (.tuple #[.pointer none, .iface ty p]) ∧ Below w.heap.size w w' := by
  have HN := Lib.hid (new_no m h (.iface ty p) w hE)
  clear hE h
  go_enter Tryd.func24, Tryd.ntmps24
  go_wp2_with fail
  refine HN.out.mono ?_
  rintro e w1 ⟨rfl, hb⟩
  go_wp2
  go_ret2
  exact ⟨rfl, hb⟩
set_option maxRecDepth 100000 in
set_option maxHeartbeats 1000000 in
theorem resizeE_yes (b A : Nat) (s : ES) (x : Nat) (hx : x ≤ 4096) (w : World) (h : Ec w b A s) :
    Calls Tryd.prog 26 #[.pointer (some ⟨b, 0, none⟩), .int .i64 (x : Int)] w fun e w' => e = .returned .nilIface ∧ Ec w' b A (resizeE s x) ∧ Kq w.heap.size A b w w' := by
  have c0 := h.c0
  have HR := Lib.hid (has_resize h.has h.m x hx)
  have HEC := Lib.hid h
  have hl := h.lt
  clear h
  obtain ⟨m, M, o⟩ := s
  cases o with
  | none =>
    go_enter Tryd.func26, Tryd.ntmps26
    go_wp2_with fail
    refine HR.out.mono ?_
    rintro e w1 ⟨rfl, hA, hk⟩
    have HE1 := Lib.hid (HEC.out.tab hk hx hA)
    have d1 := HE1.out.c1
    have d2 := HE1.out.c2
    have hz := fun i => HE1.out.z i
    simp only [Option.isSome_none, Option.getD_none] at d1 d2
    clear hA c0
    go_wp2
    go_ret
    exact ⟨rfl, HE1.out.ask (some x) hx, (Kq.of_kp hk (Nat.le_refl _)).trans (Kq.of_kp' (((Kp.refl b w1).set _ _).set _ _) hk.size)⟩
  | some y =>
    have hy := HEC.out.least
    simp only [Option.getD_some] at hy
    by_cases hxy : x < y
    · go_enter Tryd.func26, Tryd.ntmps26
      go_wp2_with fail
      refine HR.out.mono ?_
      rintro e w1 ⟨rfl, hA, hk⟩
      have HE1 := Lib.hid (HEC.out.tab hk hx hA)
      have d1 := HE1.out.c1
      have d2 := HE1.out.c2
      have hz := fun i => HE1.out.z i
      simp only [Option.isSome_some, Option.getD_some] at d1 d2
      have hdc : decide (x < y) = true := by simpa using hxy
      clear hA c0
      go_wp2
      go_ret
      refine ⟨rfl, ?_, (Kq.of_kp hk (Nat.le_refl _)).trans (Kq.of_kp' (((Kp.refl b w1).set _ _).set _ _) hk.size)⟩
      have := HE1.out.ask (some x) hx
      unfold resizeE
      simp only [show min x y = x by omega]
      exact this
    · go_enter Tryd.func26, Tryd.ntmps26
      go_wp2_with fail
      refine HR.out.mono ?_
      rintro e w1 ⟨rfl, hA, hk⟩
      have HE1 := Lib.hid (HEC.out.tab hk hx hA)
      have d1 := HE1.out.c1
      have d2 := HE1.out.c2
      simp only [Option.isSome_some, Option.getD_some] at d1 d2
      have hdc : decide (x < y) = false := by simpa using hxy
      clear hA c0
      go_wp2
      go_ret
      refine ⟨rfl, ?_, Kq.of_kp hk (Nat.le_refl _)⟩
      unfold resizeE
      simp only [show min x y = y by omega]
      exact HE1.out
/-- Bytes of the call's own, of l; the encoder holds s; below block B only it has turned. -/
def EncOut (B b A : Nat) (l : List UInt8) (s : ES) (w : World) (e : Ending) (w' : World) : Prop := ∃ a N c, e = .returned (.slice a N c) ∧ Hid (N = l.length) ∧ Hu.Own w' B (.slice a N c) l ∧ Ec w' b A s ∧ Kq B A b w w'
set_option maxRecDepth 100000 in
set_option maxHeartbeats 1000000 in
theorem addSizes_any (B b A : Nat) (s : ES) (w : World) (h : Ec w b A s) (hB : B ≤ w.heap.size) (hb : b < B) :
    Calls Tryd.prog 55 #[.pointer (some ⟨b, 0, none⟩), .slice none 0 0] w (EncOut B b A (sizesB s) ⟨s.m, s.M, none⟩ w) := by
  have c0 := h.c0
  have c1 := h.c1
  have c2 := h.c2
  have HMO := Lib.hid (has_most h.has)
  have HEC := Lib.hid h
  have hm := h.m
  have hle := h.least
  have HADD := Lib.hid (fun (x : Nat) (hx : x ≤ 4096) (a : Option Addr) (N c : Nat) (l : List UInt8) (W : World) (ho : Hu.Own W B (.slice a N c) l) (hw : B ≤ W.heap.size) (hl : l.length ≤ 1000000000) => addInt_any B a N c l 1 5 x (by omega) (by omega) (by omega) (by omega) W ho hw hl)
  clear h
  obtain ⟨m, M, o⟩ := s
  cases o with
  | none =>
    simp only [Option.isSome_none, Option.getD_none] at c1 c2
    go_enter Tryd.func55, Tryd.ntmps55
    go_wp2
    go_ret
    exact ⟨_, _, _, rfl, Lib.hid rfl, Hu.Own.nil _ _, HEC.out, Kq.refl _ _ _ _⟩
  | some y =>
    simp only [Option.isSome_some, Option.getD_some] at c1 c2 hle
    simp only at hm
    by_cases hym : y < m
    · have hdc : decide (y < m) = true := by simpa using hym
      have HS : Hid (sizesB ⟨m, M, some y⟩ = pint 32 5 y ++ pint 32 5 m) := Lib.hid (by simp only [sizesB, if_pos hym])
      have HA1 := Lib.hid (HADD.out y hle none 0 0 [] w (Hu.Own.nil _ _) hB (by simp))
      have h6 := pint_len (first := 32) (bits := 5) (n := y) (by omega)
      go_enter Tryd.func55, Tryd.ntmps55
      go_wp2_with fail
      refine HMO.out.mono ?_
      rintro e w' ⟨rfl, rfl⟩
      go_wp2_with fail
      refine HA1.out.mono ?_
      rintro e w1 ⟨a1, N1, v1, rfl, hN1, ho1, hb1, _⟩
      have HE1 := Lib.hid (HEC.out.old hb1 hb)
      have d1 := HE1.out.c1
      have d2 := HE1.out.c2
      have hz := fun i => HE1.out.z i
      simp only [Option.isSome_some, Option.getD_some] at d1 d2
      have hz1 := hb1.size
      have HE2 := Lib.hid (HE1.out.ask none (by simp))
      simp only [Option.isSome_none, Option.getD_none] at HE2
      have HO2 := Lib.hid (own_kp ho1 (((Kp.refl b w1).set 1 (.bool false)).set 2 (.int .i64 ((0 : Nat) : Int))) hb)
      have HA2 := Lib.hid (HADD.out m hm a1 N1 v1 _ _ HO2.out (by simp [World.setCell]; omega) (by simp; omega))
      clear HA1 HADD ho1 c0 c1 c2 HMO
      go_wp2_with fail
      refine HA2.out.mono ?_
      rintro e w2 ⟨a2, N2, v2, rfl, hN2, ho2, hb2, _⟩
      rw [List.nil_append] at hN2 ho2
      have HE3 := Lib.hid (HE2.out.old hb2 hb)
      clear HA2
      go_wp2_with fail
      go_ret
      exact ⟨_, _, _, rfl, by rw [HS.out]; exact hN2, by rw [HS.out]; exact ho2, HE3.out, (Kq.of_below hb1).trans ((Kq.of_kp' (((Kp.refl b w1).set _ _).set _ _) (by omega)).trans (Kq.of_below hb2))⟩
    · have hdc : decide (y < m) = false := by simpa using hym
      have HS : Hid (sizesB ⟨m, M, some y⟩ = pint 32 5 m) := Lib.hid (by simp only [sizesB, if_neg hym, List.nil_append])
      have hz := fun i => HEC.out.z i
      have HE2 := Lib.hid (HEC.out.ask none (by simp))
      simp only [Option.isSome_none, Option.getD_none] at HE2
      have HA2 := Lib.hid (HADD.out m hm none 0 0 [] _ (own_kp (Hu.Own.nil w B) (((Kp.refl b w).set 1 (.bool false)).set 2 (.int .i64 ((0 : Nat) : Int))) hb) (by simp [World.setCell]; omega) (by simp))
      clear HADD
      go_enter Tryd.func55, Tryd.ntmps55
      go_wp2_with fail
      refine HMO.out.mono ?_
      rintro e w' ⟨rfl, rfl⟩
      clear HMO
      go_wp2_with fail
      refine HA2.out.mono ?_
      rintro e w2 ⟨a2, N2, v2, rfl, hN2, ho2, hb2, _⟩
      rw [List.nil_append] at hN2 ho2
      have HE3 := Lib.hid (HE2.out.old hb2 hb)
      clear HA2
      go_wp2_with fail
      go_ret
      exact ⟨_, _, _, rfl, by rw [HS.out]; exact hN2, by rw [HS.out]; exact ho2, HE3.out, (Kq.of_kp' (((Kp.refl b w).set _ _).set _ _) (by omega)).trans (Kq.of_below hb2)⟩
end Go.Proofs.YtlkieeindnpidaaDoor
