/-
  A table with headers ('Has') and its contracts, for the laws of other chapters (chapter 3's own take them out of XQ, XM, XZ).
-/
import Derived.Test.YtlkieeindnpidaaDoorTtF
import Derived.Test.YtlkieeindnpidaaDoorTtKit
import Derived.Test.YtlkieeindnpidaaDoorTtS
namespace Go.Proofs.YtlkieeindnpidaaDoor.Tt
open Go.RowKit

theorem rg_nil (R : Nat → Hd) : Rg R 0 [] := ⟨by omega, by simp, fun j h => by simp at h⟩
/-- A table at block A with some headers. -/
def Has (w : World) (A m : Nat) (M : List Hd) : Prop := ∃ (R : Nat → Hd) (o : Nat), Rg R o M ∧ Tb w A R o M.length (total M) m ∧ total M ≤ m
theorem Has.lt {w : World} {A m : Nat} {M : List Hd} (h : Has w A m M) : A < w.heap.size := by obtain ⟨R, o, _, ht, _⟩ := h; exact ht.lt
theorem Has.kp {w w' : World} {A B m : Nat} {M : List Hd} (h : Has w A m M) (hk : Kp B w w') (hne : A ≠ B) : Has w' A m M := by
  have hl := h.lt
  obtain ⟨R, o, hr, ht, hm⟩ := h
  exact ⟨R, o, hr, ht.kept (hk.block A hl hne), hm⟩
theorem Has.below {w w' : World} {A m : Nat} {M : List Hd} (h : Has w A m M) (hb : Below w.heap.size w w') : Has w' A m M := by
  obtain ⟨R, o, hr, ht, hm⟩ := h
  exact ⟨R, o, hr, ht.below hb, hm⟩
theorem has_add {w : World} {A m : Nat} {M : List Hd} (h : Has w A m M) (hm : m ≤ 4096) (g : Hd) (c : Bool) (h1 : g.1.size ≤ 140737488351232) (h2 : g.2.size ≤ 140737488351232) :
    Calls Tryd.prog 81 #[.pointer (some ⟨A, 0, none⟩), hdN g c] w fun e w' => e = .returned (.tuple #[]) ∧ Has w' A m (addM m M g) ∧ Kp A w w' := by
  obtain ⟨R, o, hr, ht, hM⟩ := h
  refine (add_any A m M g c w (by omega) (by omega) hm hM hr ht).mono ?_
  rintro e w' ⟨R', o', h1, h2, h3, h4, h5⟩
  exact ⟨h1, ⟨R', o', h2, h3, h4⟩, h5⟩
theorem has_resize {w : World} {A m : Nat} {M : List Hd} (h : Has w A m M) (hm : m ≤ 4096) (x : Nat) (hx : x ≤ 4096) :
    Calls Tryd.prog 53 #[.pointer (some ⟨A, 0, none⟩), .int .i64 (x : Int)] w fun e w' => e = .returned .nilIface ∧ Has w' A x (shr x M) ∧ Kp A w w' := by
  obtain ⟨R, o, hr, ht, hM⟩ := h
  refine (resize_yes A m x M w hx (by omega) hr ht).mono ?_
  rintro e w' ⟨R', o', h1, h2, h3, h4⟩
  exact ⟨h1, ⟨R', o', h2, h3, (shr_le x M).1⟩, h4⟩
theorem has_new (m : Nat) (h : m ≤ 4096) (w : World) : Calls Tryd.prog 51 #[.int .i64 (m : Int)] w fun e w' => e = .returned (.tuple #[.pointer (some ⟨w.heap.size, 0, none⟩), .nilIface]) ∧ Has w' w.heap.size m [] ∧ Below w.heap.size w w' :=
  (new_yes m h w).mono fun e w' ⟨h1, h2, h3⟩ => ⟨h1, ⟨_, 0, rg_nil _, h2, by simp [total]⟩, h3⟩
theorem has_len {w : World} {A m : Nat} {M : List Hd} (h : Has w A m M) : Calls Tryd.prog 63 #[.pointer (some ⟨A, 0, none⟩)] w fun e w' => e = .returned (.int .i64 (M.length : Int)) ∧ w = w' := by
  obtain ⟨R, o, hr, ht, hM⟩ := h; exact len_any ht
theorem has_get {w : World} {A m : Nat} {M : List Hd} (h : Has w A m M) (i : Int) (hi : -9223372036854775808 ≤ i ∧ i ≤ 9223372036854775807) :
    Calls Tryd.prog 118 #[.pointer (some ⟨A, 0, none⟩), .int .i64 i] w fun e w' => e = .returned (.tuple #[hdV ((getM M i).getD (⟨#[]⟩, ⟨#[]⟩)), .bool (getM M i).isSome]) ∧ Below w.heap.size w w' := by
  obtain ⟨R, o, hr, ht, hM⟩ := h; exact get_any A i M w hi hr ht
theorem has_find {w : World} {A m : Nat} {M : List Hd} (h : Has w A m M) (name value : ByteArray) :
    Calls Tryd.prog 80 #[.pointer (some ⟨A, 0, none⟩), .string name, .string value] w fun e w' => e = .returned (.tuple #[.int .i64 ((fnd name value (allL M)).1 : Int), .bool (fnd name value (allL M)).2]) ∧ Below w.heap.size w w' := by
  obtain ⟨R, o, hr, ht, hM⟩ := h; exact find_any A name value M w hr ht
theorem has_resize_no {w : World} {A m : Nat} {M : List Hd} (_h : Has w A m M) (x : Int) (hx : x < 0 ∨ 4096 < x) (ev : Value) (hE : w.cell? ⟨0, 0, none⟩ = some ev) :
    Calls Tryd.prog 53 #[.pointer (some ⟨A, 0, none⟩), .int .i64 x] w fun e w' => e = .returned ev ∧ Below w.heap.size w w' :=
  (resize_no A x hx ev w hE).mono fun e w' ⟨h, q, hq⟩ => ⟨h, by rw [hq]; exact bdN (Below.refl _ _) q⟩
theorem has_most {w : World} {A m : Nat} {M : List Hd} (h : Has w A m M) : Calls Tryd.prog 79 #[.pointer (some ⟨A, 0, none⟩)] w fun e w' => e = .returned (.int .i64 (m : Int)) ∧ w = w' := by
  obtain ⟨R, o, hr, ht, hM⟩ := h; exact most_any ht
theorem Has.total_le {w : World} {A m : Nat} {M : List Hd} (h : Has w A m M) : total M ≤ m := by obtain ⟨R, o, hr, ht, hM⟩ := h; exact hM
theorem Has.blk {w w' : World} {A m : Nat} {M : List Hd} (h : Has w A m M) (hb : w'.heap[A]? = w.heap[A]?) : Has w' A m M := by
  obtain ⟨R, o, hr, ht, hm⟩ := h
  exact ⟨R, o, hr, ht.kept hb, hm⟩
end Go.Proofs.YtlkieeindnpidaaDoor.Tt
