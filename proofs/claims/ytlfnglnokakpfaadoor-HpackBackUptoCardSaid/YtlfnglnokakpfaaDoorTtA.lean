/-
  CONTRACTS: Add, Resize.
-/
import Derived.Test.YtlfnglnokakpfaaDoorTtL
import Derived.Test.YtlfnglnokakpfaaDoorTtC
namespace Go.Proofs.YtlfnglnokakpfaaDoor.Tt
open Go.RowKit

/-- What Add leaves, the oldest first. -/
def addM (m : Nat) (M : List Hd) (h : Hd) : List Hd := if sizeH h ≤ m then shr (m - sizeH h) M ++ [h] else []
theorem shr_le (x : Nat) : ∀ M : List Hd, total (shr x M) ≤ x ∧ total (shr x M) ≤ total M ∧ (shr x M).length ≤ M.length
  | [] => by simp [shr, total]
  | g :: M => by
    have := shr_le x M
    unfold shr
    split
    · simp only [total, List.length_cons]; omega
    · simp only [List.length_cons]; omega
theorem shr_zero : ∀ M : List Hd, shr 0 M = []
  | [] => rfl
  | g :: M => by rw [shr, if_pos (by simp only [total, sizeH]; omega), shr_zero M]
theorem total_app : ∀ M N : List Hd, total (M ++ N) = total M + total N
  | [], N => by simp [total]
  | g :: M, N => by simp [total, total_app M N]; omega
/-- What the statement that stores a header reads. -/
structure St (w : World) (b g q o k : Nat) (h r : Hd) : Prop where
  c0 : w.cell? ⟨b, 384, none⟩ = some (.int .i64 (o : Int))
  c1 : w.cell? ⟨b, 385, none⟩ = some (.int .i64 (k : Int))
  n0 : w.cell? ⟨g, 0, none⟩ = some (.string h.1)
  n1 : w.cell? ⟨g, 1, none⟩ = some (.string h.2)
  e0 : w.cell? ⟨b, q * 3, none⟩ = some (.string r.1)
  e1 : w.cell? ⟨b, q * 3 + 1, none⟩ = some (.string r.2)
  e2 : w.cell? ⟨b, q * 3 + 2, none⟩ = some (.bool false)
  z : ∀ i, w.frozen? ⟨b, i, none⟩ = false
theorem St.kept {w w' : World} {b g q o k : Nat} {h r : Hd} (s : St w b g q o k h r) (hb : Below w.heap.size w w') : St w' b g q o k h r :=
  ⟨(hb.cell (cell_lt s.c0)).trans s.c0, (hb.cell (cell_lt s.c1)).trans s.c1, (hb.cell (cell_lt s.n0)).trans s.n0, (hb.cell (cell_lt s.n1)).trans s.n1,
   (hb.cell (cell_lt s.e0)).trans s.e0, (hb.cell (cell_lt s.e1)).trans s.e1, (hb.cell (cell_lt s.e2)).trans s.e2, fun i => (hb.frozen (p := ⟨b, i, none⟩) (show b < w.heap.size from cell_lt s.c0)).trans (s.z i)⟩
/-- What lies in a cell. -/
def val (w : World) (b i : Nat) : Value := (w.cell? ⟨b, i, none⟩).getD undef
theorem val_of {w : World} {b i : Nat} {v : Value} (h : w.cell? ⟨b, i, none⟩ = some v) : w.cell? ⟨b, i, none⟩ = some (val w b i) := by unfold val; rw [h]; rfl
def SkP (w : World) (b g q o k : Nat) (h : Hd) : Prop := w.cell? ⟨b, 384, none⟩ = some (.int .i64 (o : Int)) ∧ w.cell? ⟨b, 385, none⟩ = some (.int .i64 (k : Int)) ∧ w.cell? ⟨g, 0, none⟩ = some (.string h.1) ∧ w.cell? ⟨g, 1, none⟩ = some (.string h.2) ∧
  w.cell? ⟨b, q * 3, none⟩ = some (val w b (q * 3)) ∧ w.cell? ⟨b, q * 3 + 1, none⟩ = some (val w b (q * 3 + 1)) ∧ w.cell? ⟨b, q * 3 + 2, none⟩ = some (val w b (q * 3 + 2)) ∧ ∀ i, w.frozen? ⟨b, i, none⟩ = false
theorem sk_drew {w : World} {b g q o k : Nat} {h : Hd} (s : SkP w b g q o k h) : SkP w.drew b g q o k h := s
theorem sk_of {w : World} {b g q o k : Nat} {h r : Hd} (s : St w b g q o k h r) : SkP w b g q o k h := ⟨s.c0, s.c1, s.n0, s.n1, val_of s.e0, val_of s.e1, val_of s.e2, s.z⟩
theorem cell_setB (w : World) (b g i j : Nat) (u : Value) (h : b ≠ g) : (w.setCell ⟨b, i, none⟩ u).cell? ⟨g, j, none⟩ = w.cell? ⟨g, j, none⟩ := by
  simp [go_sem, h, Ne.symm h]
theorem sk_set {w : World} {b g q o k : Nat} {h r : Hd} {x y z : Value} (hgb : b ≠ g) (hq : q < 128) (s : St w b g q o k h r) : SkP (((w.setCell ⟨b, q * 3, none⟩ x).setCell ⟨b, q * 3 + 1, none⟩ y).setCell ⟨b, q * 3 + 2, none⟩ z) b g q o k h := by
  refine ⟨?_, ?_, ?_, ?_, val_of (v := x) ?_, val_of (v := y) ?_, val_of (v := z) ?_, fun i => ?_⟩
  · rw [cell_setN _ _ _ _ _ (by omega), cell_setN _ _ _ _ _ (by omega), cell_setN _ _ _ _ _ (by omega)]; exact s.c0
  · rw [cell_setN _ _ _ _ _ (by omega), cell_setN _ _ _ _ _ (by omega), cell_setN _ _ _ _ _ (by omega)]; exact s.c1
  · rw [cell_setB _ _ _ _ _ _ hgb, cell_setB _ _ _ _ _ _ hgb, cell_setB _ _ _ _ _ _ hgb]; exact s.n0
  · rw [cell_setB _ _ _ _ _ _ hgb, cell_setB _ _ _ _ _ _ hgb, cell_setB _ _ _ _ _ _ hgb]; exact s.n1
  · rw [cell_setN _ _ _ _ _ (by omega), cell_setN _ _ _ _ _ (by omega)]; exact cell_setS _ _ _ _ _ s.e0
  · rw [cell_setN _ _ _ _ _ (by omega)]; exact cell_setS _ _ _ _ _ (by rw [cell_setN _ _ _ _ _ (by omega)]; exact s.e1)
  · exact cell_setS _ _ _ _ _ (by rw [cell_setN _ _ _ _ _ (by omega), cell_setN _ _ _ _ _ (by omega)]; exact s.e2)
  · rw [World.frozen?_setCell, World.frozen?_setCell, World.frozen?_setCell]; exact s.z i
theorem sk_1 {w : World} {b g q o k : Nat} {h r : Hd} (s : St w b g q o k h r) : w.cell? ⟨b, 384, none⟩ = some (.int .i64 (o : Int)) ∧ w.cell? ⟨b, 385, none⟩ = some (.int .i64 (k : Int)) ∧ w.cell? ⟨g, 0, none⟩ = some (.string h.1) ∧ w.cell? ⟨g, 1, none⟩ = some (.string h.2) ∧ w.cell? ⟨b, q * 3, none⟩ = some (val w b (q * 3)) ∧ w.cell? ⟨b, q * 3 + 1, none⟩ = some (val w b (q * 3 + 1)) ∧ w.cell? ⟨b, q * 3 + 2, none⟩ = some (val w b (q * 3 + 2)) ∧ ∀ i, w.frozen? ⟨b, i, none⟩ = false := sk_of s
theorem sk_2 {w : World} {b g q o k : Nat} {h r : Hd} (s : St w b g q o k h r) : w.drew.cell? ⟨b, 384, none⟩ = some (.int .i64 (o : Int)) ∧ w.drew.cell? ⟨b, 385, none⟩ = some (.int .i64 (k : Int)) ∧ w.drew.cell? ⟨g, 0, none⟩ = some (.string h.1) ∧ w.drew.cell? ⟨g, 1, none⟩ = some (.string h.2) ∧ w.drew.cell? ⟨b, q * 3, none⟩ = some (val w.drew b (q * 3)) ∧ w.drew.cell? ⟨b, q * 3 + 1, none⟩ = some (val w.drew b (q * 3 + 1)) ∧ w.drew.cell? ⟨b, q * 3 + 2, none⟩ = some (val w.drew b (q * 3 + 2)) ∧ ∀ i, w.drew.frozen? ⟨b, i, none⟩ = false := sk_drew (sk_of s)
theorem sk_3 {w : World} {b g q o k : Nat} {h r : Hd} {x y z : Value} (hgb : b ≠ g) (hq : q < 128) (s : St w b g q o k h r) : (((w.setCell ⟨b, q * 3, none⟩ x).setCell ⟨b, q * 3 + 1, none⟩ y).setCell ⟨b, q * 3 + 2, none⟩ z).cell? ⟨b, 384, none⟩ = some (.int .i64 (o : Int)) ∧ (((w.setCell ⟨b, q * 3, none⟩ x).setCell ⟨b, q * 3 + 1, none⟩ y).setCell ⟨b, q * 3 + 2, none⟩ z).cell? ⟨b, 385, none⟩ = some (.int .i64 (k : Int)) ∧ (((w.setCell ⟨b, q * 3, none⟩ x).setCell ⟨b, q * 3 + 1, none⟩ y).setCell ⟨b, q * 3 + 2, none⟩ z).cell? ⟨g, 0, none⟩ = some (.string h.1) ∧ (((w.setCell ⟨b, q * 3, none⟩ x).setCell ⟨b, q * 3 + 1, none⟩ y).setCell ⟨b, q * 3 + 2, none⟩ z).cell? ⟨g, 1, none⟩ = some (.string h.2) ∧ (((w.setCell ⟨b, q * 3, none⟩ x).setCell ⟨b, q * 3 + 1, none⟩ y).setCell ⟨b, q * 3 + 2, none⟩ z).cell? ⟨b, q * 3, none⟩ = some (val (((w.setCell ⟨b, q * 3, none⟩ x).setCell ⟨b, q * 3 + 1, none⟩ y).setCell ⟨b, q * 3 + 2, none⟩ z) b (q * 3)) ∧ (((w.setCell ⟨b, q * 3, none⟩ x).setCell ⟨b, q * 3 + 1, none⟩ y).setCell ⟨b, q * 3 + 2, none⟩ z).cell? ⟨b, q * 3 + 1, none⟩ = some (val (((w.setCell ⟨b, q * 3, none⟩ x).setCell ⟨b, q * 3 + 1, none⟩ y).setCell ⟨b, q * 3 + 2, none⟩ z) b (q * 3 + 1)) ∧ (((w.setCell ⟨b, q * 3, none⟩ x).setCell ⟨b, q * 3 + 1, none⟩ y).setCell ⟨b, q * 3 + 2, none⟩ z).cell? ⟨b, q * 3 + 2, none⟩ = some (val (((w.setCell ⟨b, q * 3, none⟩ x).setCell ⟨b, q * 3 + 1, none⟩ y).setCell ⟨b, q * 3 + 2, none⟩ z) b (q * 3 + 2)) ∧ ∀ i, (((w.setCell ⟨b, q * 3, none⟩ x).setCell ⟨b, q * 3 + 1, none⟩ y).setCell ⟨b, q * 3 + 2, none⟩ z).frozen? ⟨b, i, none⟩ = false := sk_set hgb hq s
theorem sk_4 {w : World} {b g q o k : Nat} {h r : Hd} {x y z : Value} (hgb : b ≠ g) (hq : q < 128) (s : St w b g q o k h r) : (((w.setCell ⟨b, q * 3, none⟩ x).setCell ⟨b, q * 3 + 1, none⟩ y).setCell ⟨b, q * 3 + 2, none⟩ z).drew.cell? ⟨b, 384, none⟩ = some (.int .i64 (o : Int)) ∧ (((w.setCell ⟨b, q * 3, none⟩ x).setCell ⟨b, q * 3 + 1, none⟩ y).setCell ⟨b, q * 3 + 2, none⟩ z).drew.cell? ⟨b, 385, none⟩ = some (.int .i64 (k : Int)) ∧ (((w.setCell ⟨b, q * 3, none⟩ x).setCell ⟨b, q * 3 + 1, none⟩ y).setCell ⟨b, q * 3 + 2, none⟩ z).drew.cell? ⟨g, 0, none⟩ = some (.string h.1) ∧ (((w.setCell ⟨b, q * 3, none⟩ x).setCell ⟨b, q * 3 + 1, none⟩ y).setCell ⟨b, q * 3 + 2, none⟩ z).drew.cell? ⟨g, 1, none⟩ = some (.string h.2) ∧ (((w.setCell ⟨b, q * 3, none⟩ x).setCell ⟨b, q * 3 + 1, none⟩ y).setCell ⟨b, q * 3 + 2, none⟩ z).drew.cell? ⟨b, q * 3, none⟩ = some (val (((w.setCell ⟨b, q * 3, none⟩ x).setCell ⟨b, q * 3 + 1, none⟩ y).setCell ⟨b, q * 3 + 2, none⟩ z).drew b (q * 3)) ∧ (((w.setCell ⟨b, q * 3, none⟩ x).setCell ⟨b, q * 3 + 1, none⟩ y).setCell ⟨b, q * 3 + 2, none⟩ z).drew.cell? ⟨b, q * 3 + 1, none⟩ = some (val (((w.setCell ⟨b, q * 3, none⟩ x).setCell ⟨b, q * 3 + 1, none⟩ y).setCell ⟨b, q * 3 + 2, none⟩ z).drew b (q * 3 + 1)) ∧ (((w.setCell ⟨b, q * 3, none⟩ x).setCell ⟨b, q * 3 + 1, none⟩ y).setCell ⟨b, q * 3 + 2, none⟩ z).drew.cell? ⟨b, q * 3 + 2, none⟩ = some (val (((w.setCell ⟨b, q * 3, none⟩ x).setCell ⟨b, q * 3 + 1, none⟩ y).setCell ⟨b, q * 3 + 2, none⟩ z).drew b (q * 3 + 2)) ∧ ∀ i, (((w.setCell ⟨b, q * 3, none⟩ x).setCell ⟨b, q * 3 + 1, none⟩ y).setCell ⟨b, q * 3 + 2, none⟩ z).drew.frozen? ⟨b, i, none⟩ = false := sk_set hgb hq s
def AddPost (b m : Nat) (M' : List Hd) (w : World) (e : Ending) (w' : World) : Prop := ∃ (R : Nat → Hd) (o : Nat), e = .returned (.tuple #[]) ∧ Rg R o M' ∧ Tb w' b R o M'.length (total M') m ∧ total M' ≤ m ∧ Kp b w w'
theorem Rg.push {R : Nat → Hd} {o : Nat} {M : List Hd} (h : Rg R o M) (g : Hd) (hl : M.length < 128) : Rg (fun i => if i = (o + M.length) % 128 then g else R i) o (M ++ [g]) := by
  have ho := h.lt
  refine ⟨ho, by simp; omega, fun j hj => ?_⟩
  simp only [List.length_append, List.length_cons, List.length_nil] at hj
  by_cases e : j = M.length
  · subst e
    rw [if_pos rfl]
    simp
  · rw [if_neg (by omega), List.getElem_append_left (by omega)]
    exact h.at_ j (by omega)
set_option maxRecDepth 100000 in
set_option maxHeartbeats 4000000 in
theorem add_any (b m : Nat) (M : List Hd) (h : Hd) (c : Bool) {R : Nat → Hd} {o : Nat} (w : World) (h1 : h.1.size ≤ 140737488355328) (h2 : h.2.size ≤ 140737488355328) (hm : m ≤ 4096) (hM : total M ≤ m) (hr : Rg R o M) (ht : Tb w b R o M.length (total M) m) :
    Calls Tryd.prog 81 #[.pointer (some ⟨b, 0, none⟩), hdN h c] w (AddPost b m (addM m M h) w) := by
  have hb := ht.lt
  have ht0 := ht.alloc (.cells #[.string h.1, .string h.2, .bool c] 77) hb
  have HC := Lib.hid (fun W => sizeOf_any h c W h1 h2)
  have hG : sizeH h ≤ 281474976710688 := by unfold sizeH; omega
  by_cases hgt : m < sizeH h
  · have hadd : addM m M h = [] := by unfold addM; rw [if_neg (by omega)]
    have hs := shrink_any b m 0 M _ (by omega) (by omega) hr (ht0.alloc (.cells #[.string h.1, .string h.2, .bool c] 77) (by simp; omega))
    have HS := Lib.hid hs
    have HA := Lib.hid hadd
    have q3 := (ht0.alloc (.cells #[.string h.1, .string h.2, .bool c] 77) (by simp; omega)).c3
    have HT0 := Lib.hid ht0
    clear hs hadd ht0
    generalize sizeH h = G at HC hG hgt
    go_enter Tryd.func81, Tryd.ntmps81
    go_wp2_with fail
    refine (HC.out _).mono ?_
    rintro e w1 ⟨rfl, rfl⟩
    go_wp2_with fail
    refine HS.out.mono ?_
    rintro e w2 ⟨R', o', rfl, hr', ht', hk⟩
    rw [shr_zero] at hr' ht'
    go_wp2_with fail
    go_end0
    refine ⟨R', o', rfl, ?_, ?_, ?_, ?_⟩
    · rw [HA.out]; exact hr'
    · rw [HA.out]; exact ht'
    · rw [HA.out]; simp [total]
    · exact (((Kp.refl b w).alloc _).alloc _).trans hk
  · have hle := shr_le (m - sizeH h) M
    have hadd : addM m M h = shr (m - sizeH h) M ++ [h] := by unfold addM; rw [if_pos (by omega)]
    have hG0 : 32 ≤ sizeH h := by unfold sizeH; omega
    have hsub : (m : Int) - (sizeH h : Int) = ((m - sizeH h : Nat) : Int) := by omega
    have hs := shrink_any b m (m - sizeH h) M _ (by omega) (by omega) hr (ht0.alloc (.cells #[.string h.1, .string h.2, .bool c] 77) (by simp; omega))
    rw [← hsub] at hs
    have HS := Lib.hid hs
    have HA := Lib.hid hadd
    have hGm : sizeH h ≤ m := by omega
    have q3 := (ht0.alloc (.cells #[.string h.1, .string h.2, .bool c] 77) (by simp; omega)).c3
    have HC1 := Lib.hid (fun W => clone_any h.1 W (by omega))
    have HC2 := Lib.hid (fun W => clone_any h.2 W (by omega))
    have hl32 := total_ge (shr (m - sizeH h) M)
    have HTS : Hid (sizeH h = h.1.size + h.2.size + 32) := Lib.hid rfl
    clear hs hadd ht0 hsub
    generalize hM' : shr (m - sizeH h) M = M' at HA hle hl32
    have HM' := Lib.hid hM'
    clear hM'
    generalize sizeH h = G at HC hG hgt hG0 HS HA hGm hle q3 hl32 HTS HM'
    go_enter Tryd.func81, Tryd.ntmps81
    go_wp2_with fail
    refine (HC.out _).mono ?_
    rintro e w1 ⟨rfl, rfl⟩
    go_wp2_with fail
    refine HS.out.mono ?_
    rintro e w2 ⟨R', o', rfl, hr', ht', hk⟩
    rw [HM'.out] at hr' ht'
    have hk2 := Lib.hid ((((Kp.refl b w).alloc (.cells #[.string h.1, .string h.2, .bool c] 77)).alloc (.cells #[.string h.1, .string h.2, .bool c] 77)).trans hk)
    have hlt' := ht'.lt
    have hbox : ∀ i v, (#[Value.string h.1, .string h.2, .bool c] : Array Value)[i]? = some v → w2.cell? ⟨w.heap.size, i, none⟩ = some v := fun i v hv => by
      have hbk := hk.block w.heap.size (by simp; omega) (by omega)
      rw [World.cell?_of_block (a := ⟨w.heap.size, i, none⟩) hbk, ← hv]
      simp
    have hgs : w.heap.size < w2.heap.size := by have := hk.size; simp at this; omega
    obtain ⟨k, hkl⟩ : ∃ k, k = M'.length := ⟨_, rfl⟩
    obtain ⟨q, hq⟩ : ∃ q, q = (o' + M'.length) % 128 := ⟨_, rfl⟩
    obtain ⟨T, hT⟩ : ∃ T, T = total M' := ⟨_, rfl⟩
    have ho := hr'.lt
    have hkb : k < 128 := by omega
    have hTb : T + G ≤ 4096 := by omega
    have hTm : T + G ≤ m := by omega
    have hq2 : q < 128 := by omega
    have hqq : q = (o' + k) % 128 := by omega
    rw [← hkl, ← hT] at ht'
    have hst : St w2 b w.heap.size q o' k h (R' q) := ⟨ht'.c0, ht'.c1, hbox 0 _ rfl, hbox 1 _ rfl, ht'.r0 q hq2, ht'.r1 q hq2, ht'.r2 q hq2, fun i => ht'.z i⟩
    have HTB := Lib.hid ht'
    have HST := Lib.hid hst
    have HR := Lib.hid hr'
    have HKL := Lib.hid hkl
    have HT := Lib.hid hT
    have HQ := Lib.hid hq
    have hQ1 := Lib.hid hqq
    have hs1 : (o' : Int) + (k : Int) = ((o' + k : Nat) : Int) := by simp
    have hm1 : ((o' + k : Nat) : Int) % 128 = (q : Int) := by omega
    have hm2 : ((o' + k : Nat) : Int).tmod 128 = (q : Int) := by rw [Int.tmod_eq_emod_of_nonneg (by omega)]; omega
    have hw1 : IntKind.i64.wrap ((o' + k : Nat) : Int) = ((o' + k : Nat) : Int) := by rw [IntWalk.i64_in _ (by omega)]
    generalize o' + k = t at hs1 hm1 hm2 hw1
    have hqa : (0 : Int) ≤ (q : Int) := by omega
    have hqb : (q : Int) < 128 := by omega
    have h1' := Lib.hid (fun (W : World) (hW : Below w2.heap.size w2 W) => (HC1.out W).mono (R' := fun e w' => e = .returned (.string h.1) ∧ Below w2.heap.size w2 w') (fun e w' hh => ⟨hh.1, hW.trans (hh.2.mono hW.size)⟩))
    have h2' := Lib.hid (fun (W : World) (hW : Below w2.heap.size w2 W) => (HC2.out W).mono (R' := fun e w' => e = .returned (.string h.2) ∧ Below w2.heap.size w2 w') (fun e w' hh => ⟨hh.1, hW.trans (hh.2.mono hW.size)⟩))
    have hb0 := Below.refl w2.heap.size w2
    have HB0 := Lib.hid hb0
    generalize hrq : R' q = rq at HST
    obtain ⟨c0, c1, n0, n1, e0, e1, e2, hz⟩ := HST.out
    have hgb : b ≠ w.heap.size := by omega
    have hqn : q < 128 := by omega
    clear hk hbox hkl hT hq hqq ht' hst hr' hrq hb0 HC1 HC2 HS HC q3 hle hl32 hM ht hr
    go_wp2_with (fail)
    go_upto_region 5 with fail
    go_cut [33] (fun _ wx => Tb wx b (fun i => if i = q then h else R' i) o' k T m ∧ Kp b w2 wx)
    case first =>
      go_region_held3 (fun w' => w'.cell? ⟨b, 384, none⟩ = some (.int .i64 (o' : Int)) ∧ w'.cell? ⟨b, 385, none⟩ = some (.int .i64 (k : Int)) ∧ w'.cell? ⟨w.heap.size, 0, none⟩ = some (.string h.1) ∧ w'.cell? ⟨w.heap.size, 1, none⟩ = some (.string h.2) ∧
          w'.cell? ⟨b, q * 3, none⟩ = some (val w' b (q * 3)) ∧ w'.cell? ⟨b, q * 3 + 1, none⟩ = some (val w' b (q * 3 + 1)) ∧ w'.cell? ⟨b, q * 3 + 2, none⟩ = some (val w' b (q * 3 + 2)) ∧ ∀ i, w'.frozen? ⟨b, i, none⟩ = false)
        ((first | (with_reducible exact sk_1 HST.out) | (with_reducible exact sk_2 HST.out) | (with_reducible exact sk_1 (HST.out.kept (by assumption))) | (with_reducible exact sk_2 (HST.out.kept (by assumption))) | (with_reducible exact sk_3 hgb hqn (HST.out.kept (by assumption))) | (with_reducible exact sk_4 hgb hqn (HST.out.kept (by assumption)))))
        (first | (go_at_call_of 95 (Value.string h.1); (with_reducible_and_instances refine Calls.mono (h1'.out _ ?_) ?_); (repeat (first | (with_reducible exact HB0.out) | (with_reducible assumption) | (with_reducible refine Below.drew ?_))); rintro e w3 ⟨rfl, hb3⟩) | (go_at_call_of 95 (Value.string h.2); (with_reducible_and_instances refine Calls.mono (h2'.out _ ?_) ?_); (repeat (first | (with_reducible exact HB0.out) | (with_reducible assumption) | (with_reducible refine Below.drew ?_))); rintro e w3 ⟨rfl, hb3⟩))
      all_goals (go_wp2_with fail; go_meet)
      all_goals exact ⟨(HTB.out.below (by assumption)).setR q hqn h, ((((Kp.of_below (by assumption)).set _ _).set _ _).set _ _)⟩
    case rest =>
      obtain ⟨hwc, hkc⟩ := hcut
      have d1 := hwc.c1
      have d2 := hwc.c2
      have dz := fun i => hwc.z i
      have HWC := Lib.hid hwc
      have hk1 : (k : Int) + 1 = ((k + 1 : Nat) : Int) := by simp
      have hTG : (T : Int) + (G : Int) = ((T + G : Nat) : Int) := by simp
      have HK1 := Lib.hid hk1
      have HTG := Lib.hid hTG
      clear hwc c0 c1 n0 n1 e0 e1 e2 hz hk1 hTG hs1 hm1 hm2 hw1
      go_wp2
      go_end0
      have hfin := (HWC.out.set1 (k + 1)).set2 (T + G)
      have hpush := HR.out.push h (by have := HKL.out; omega)
      rw [← HQ.out] at hpush
      rw [← HK1.out, ← HTG.out] at hfin
      refine ⟨fun i => if i = q then h else R' i, o', rfl, ?_, ?_, ?_, ?_⟩
      · rw [HA.out]; exact hpush
      · have e1 : (M' ++ [h]).length = k + 1 := by rw [List.length_append, ← HKL.out]; rfl
        have e2 : total (M' ++ [h]) = T + G := by rw [total_app, ← HT.out, HTS.out]; rfl
        rw [HA.out, e1, e2]
        exact hfin
      · rw [HA.out, total_app, ← HT.out]
        simp only [total, sizeH]
        have := HTS.out
        omega
      · exact hk2.out.trans (hkc.trans (((Kp.refl b wc).set _ _).set _ _))
/-- What Resize leaves. -/
def ResPost (b m : Nat) (M' : List Hd) (w : World) (e : Ending) (w' : World) : Prop := ∃ (R : Nat → Hd) (o : Nat), e = .returned .nilIface ∧ Rg R o M' ∧ Tb w' b R o M'.length (total M') m ∧ Kp b w w'
set_option maxRecDepth 100000 in
set_option maxHeartbeats 1000000 in
theorem resize_yes (b m x : Nat) (M : List Hd) {R : Nat → Hd} {o : Nat} (w : World) (hx : x ≤ 4096) (hM : total M ≤ 4096) (hr : Rg R o M) (ht : Tb w b R o M.length (total M) m) :
    Calls Tryd.prog 53 #[.pointer (some ⟨b, 0, none⟩), .int .i64 (x : Int)] w (ResPost b x (shr x M) w) := by
  have hs := shrink_any b x x M _ hM hx hr (ht.set3 x)
  have HS := Lib.hid hs
  have q3 := ht.c3
  have hz := fun i => ht.z i
  have HM := Lib.hid (fun W => mayBe_yes x hx W)
  clear hs
  go_enter Tryd.func53, Tryd.ntmps53
  go_wp2_with fail
  refine (HM.out _).mono ?_
  rintro e w1 ⟨rfl, rfl⟩
  go_wp2_with fail
  refine HS.out.mono ?_
  rintro e w2 ⟨R', o', rfl, hr', ht', hk⟩
  go_wp2_with fail
  go_ret
  exact ⟨R', o', rfl, hr', ht', ((Kp.refl b w).set _ _).trans hk⟩
theorem resize_no (b : Nat) (x : Int) (h : x < 0 ∨ 4096 < x) (ev : Value) (w : World) (hE : w.cell? ⟨0, 0, none⟩ = some ev) :
    Calls Tryd.prog 53 #[.pointer (some ⟨b, 0, none⟩), .int .i64 x] w fun e w' => e = .returned ev ∧ ∃ q, w' = w.drewN q := by
  have HM := Lib.hid (fun W => mayBe_no x h W)
  clear h
  go_enter Tryd.func53, Tryd.ntmps53
  go_wp2_with fail
  refine (HM.out _).mono ?_
  rintro e w1 ⟨rfl, rfl⟩
  go_wp2_with fail
  try go_quiet (fail)
  try go_wp2
  go_ret
  exact ⟨rfl, 0, rfl⟩
end Go.Proofs.YtlfnglnokakpfaaDoor.Tt
