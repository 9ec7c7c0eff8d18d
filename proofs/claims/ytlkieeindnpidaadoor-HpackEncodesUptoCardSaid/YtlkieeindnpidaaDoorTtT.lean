/-
  CONTRACTS: the iterators: tell, all, Each.
-/
import Derived.Test.YtlkieeindnpidaaDoorTtS
import Derived.RangeFuncNested
import Derived.RangeFuncBound
import Derived.RangeFuncCalls
import Derived.RangeFuncLeaves
import Derived.Shelf.Abstract
import Derived.Shelf.RegionOpen
import Derived.OwnWalkIn
import Derived.TacticsInMore
import Derived.LoopNIn
import Derived.LoopIn
namespace Go.Proofs.YtlkieeindnpidaaDoor.Tt
open Go.RowKit Go.Shelf
attribute [local go_sem] Oper.semAt_some

theorem room_wide (k : Nat) : Fence.wide.room k := fun d h => by cases h
theorem RoundIn.any {m : Nat} (m' : Nat) {P : Program} {l : Nat} {f : FuncId} {tmps : Array Value} {assign body : Code} {w : World} {R : Ending → World → Prop}
    (h : RoundIn Fence.wide m P l f tmps assign body w R) : RoundIn Fence.wide m' P l f tmps assign body w R := ⟨h.1, fun c cs _ => h.2 c cs (room_wide _)⟩
theorem YieldAt.any {m : Nat} (m' : Nat) {P : Program} {l : Nat} {args : Array Value} {W : World} {R : Ending → World → Prop} (h : YieldAt Fence.wide m P l args W R) : YieldAt Fence.wide m' P l args W R := by
  obtain ⟨fn, tmps, assign, body, hy, hR⟩ := h
  exact ⟨fn, tmps, assign, body, hy, RoundIn.any m' hR⟩

/-- Below n₀, and at block Bt, nothing has turned. -/
structure KB (n₀ Bt : Nat) (W W' : World) : Prop where
  below : Below n₀ W W'
  box : W'.heap[Bt]? = W.heap[Bt]?
theorem KB.refl (n₀ Bt : Nat) (W : World) : KB n₀ Bt W W := ⟨Below.refl _ _, rfl⟩
theorem KB.trans {n₀ Bt : Nat} {x y z : World} (h : KB n₀ Bt x y) (k : KB n₀ Bt y z) : KB n₀ Bt x z := ⟨h.below.trans k.below, k.box.trans h.box⟩
theorem KB.of_below {n₀ Bt : Nat} {x y : World} (h : Below x.heap.size x y) (h1 : n₀ ≤ x.heap.size) (h2 : Bt < x.heap.size) : KB n₀ Bt x y := ⟨h.mono h1, h.block Bt h2⟩
theorem KB.size {n₀ Bt : Nat} {x y : World} (h : KB n₀ Bt x y) : x.heap.size ≤ y.heap.size := h.below.size

/-- What is told: an index, a header. -/
abbrev Told := Nat × Hd
def encT (x : Told) : Array Value := #[.int .i64 (x.1 : Int), hdV x.2]
/-- The first k headers of the table that moves. -/
def tabU (M : List Hd) (k : Nat) : List Told := (List.range k).map fun n => (62 + n, nth M n)
theorem tabU_succ (M : List Hd) (k : Nat) : tabU M (k + 1) = tabU M k ++ [(62 + k, nth M k)] := by simp [tabU, List.range_succ]
theorem tabU_len (M : List Hd) (k : Nat) : (tabU M k).length = k := by simp [tabU]
def TellRel (pre0 : List Told) (M : List Hd) (J : List Told → World → Prop) (n₀ Bt : Nat) (W : World) (s9 : Value) (wr : World) : Prop := ∃ k : Nat, k ≤ M.length ∧ s9 = .int .i64 (k : Int) ∧ J (pre0 ++ tabU M k) wr ∧ KB n₀ Bt W wr

set_option maxRecDepth 100000 in
set_option maxHeartbeats 2000000 in
theorem tell_in (n l Bt b n₀ N : Nat) (M : List Hd) {R : Nat → Hd} {o s m : Nat} (J Jx : List Told → World → Prop) (hJ : ∀ s W W', J s W → Below W.heap.size W W' → J s W')
    (hY : ∀ (q : Nat) pre x W, J pre W → pre.length < N → YieldAt Fence.wide q Tryd.prog l (encT x) W fun e W' => (e = .returned (.bool true) ∧ J (pre ++ [x]) W' ∧ KB n₀ Bt W W') ∨ (e = .returned (.bool false) ∧ Jx (pre ++ [x]) W'))
    (pre0 : List Told) (hN : pre0.length + M.length ≤ N) (W : World) (hb : b < n₀) (hn0 : n₀ ≤ W.heap.size) (hBs : Bt < W.heap.size) (hr : Rg R o M) (ht : Tb W b R o M.length s m) (h0 : J pre0 W) :
    CallsIn Fence.wide n Tryd.prog 110 #[.pointer (some ⟨b, 0, none⟩), .func (.yield l) #[] #[]] W fun e W' => (∃ v, e = .returned v) ∧ ((J (pre0 ++ tabU M M.length) W' ∧ KB n₀ Bt W W') ∨ ∃ k, k ≤ M.length ∧ Jx (pre0 ++ tabU M k) W') := by
  have hlm := hr.len
  have c1 := ht.c1
  refine callsIn_of_wp Tryd.func110 rfl trivial ?_ rfl
  simp only [Tryd.ntmps110, List.size_toArray, List.length_cons, List.length_nil, Nat.reduceAdd, Nat.reduceSub, Array.replicate_succ, Array.replicate_zero, List.push_toArray, List.append_toArray, List.nil_append, List.cons_append]
  gi_wp2
  gi_loopw [9] (fun s9 wr => TellRel pre0 M J n₀ Bt W s9 wr) (fun s9 _ => M.length - (intOf s9).toNat)
  case atStart => exact ⟨0, Nat.zero_le _, rfl, by simpa [tabU] using h0, KB.refl _ _ _⟩
  case round =>
    obtain ⟨k, hk, rfl, hJs, hB⟩ := hrel
    by_cases hlt : k < M.length
    · have htr := ht.kept (hB.below.block b hb)
      have HN := Lib.hid (newest_any b k M wr hlt hr htr)
      have hz := hB.size
      gi_wp2_with fail
      refine ⟨trivial, (fun h => (by cases h)), (callsIn_wide.2 HN.out).mono ?_⟩
      rintro e w3 ⟨rfl, hb3⟩
      obtain ⟨fn, tmps, assign, body, hy, hR⟩ := hY (n - 1) _ (62 + k, nth M k) w3 (hJ _ _ _ hJs hb3) (by rw [List.length_append, tabU_len]; omega)
      have hc : ((62 + k : Nat) : Int) = 62 + (k : Int) := by omega
      simp only [encT, hc] at hy
      have HR := Lib.hid hR
      clear hR hc
      gi_wp2_with fail
      refine ⟨(fun h => (by cases h)), HR.out.mono ?_⟩
      rintro e W3 (⟨rfl, hJ3, hk3⟩ | ⟨rfl, hJx3⟩)
      · have hB3 : KB n₀ Bt W W3 := (hB.trans (KB.of_below hb3 (by omega) (by omega))).trans hk3
        rw [List.append_assoc, ← tabU_succ] at hJ3
        clear hy
        gi_wp2
        go_roundw
        case rel => exact ⟨k + 1, by omega, by go_num, hJ3, hB3⟩
        case measure => simp [intOf]; omega
      · rw [List.append_assoc, ← tabU_succ] at hJx3
        clear hy
        gi_wp2
        refine bodyPost_ret (results_none rfl _ _ _) rfl ?_
        exact ⟨⟨_, rfl⟩, .inr ⟨k + 1, by omega, hJx3⟩⟩
    · obtain rfl : k = M.length := by omega
      gi_wp2
      go_end0
      exact ⟨⟨_, rfl⟩, .inl ⟨hJs, hB⟩⟩
/-- The first k headers of the table that stands. -/
def stU (k : Nat) : List Told := (List.range k).map fun n => (n + 1, stH n)
theorem stU_succ (k : Nat) : stU (k + 1) = stU k ++ [(k + 1, stH k)] := by simp [stU, List.range_succ]
theorem stU_len (k : Nat) : (stU k).length = k := by simp [stU]
def AllRel (J : List Told → World → Prop) (n₀ Bt : Nat) (W : World) (s6 : Value) (wr : World) : Prop := ∃ k : Nat, k ≤ 61 ∧ s6 = .int .i64 (k : Int) ∧ J (stU k) wr ∧ KB n₀ Bt W wr

set_option maxRecDepth 100000 in
set_option maxHeartbeats 2000000 in
theorem all1_in (n l Bt b n₀ : Nat) (M : List Hd) {R : Nat → Hd} {o s m : Nat} (J Jx : List Told → World → Prop) (hJ : ∀ s W W', J s W → Below W.heap.size W W' → J s W')
    (hY : ∀ (q : Nat) pre x W, J pre W → pre.length < 61 + M.length → YieldAt Fence.wide q Tryd.prog l (encT x) W fun e W' => (e = .returned (.bool true) ∧ J (pre ++ [x]) W' ∧ KB n₀ Bt W W') ∨ (e = .returned (.bool false) ∧ Jx (pre ++ [x]) W'))
    (W : World) (hBt : W.cell? ⟨Bt, 0, none⟩ = some (.pointer (some ⟨b, 0, none⟩))) (hb : b < n₀) (hn0 : n₀ ≤ W.heap.size) (hBs : Bt < W.heap.size) (hr : Rg R o M) (ht : Tb W b R o M.length s m) (h0 : J [] W) :
    CallsIn Fence.wide n Tryd.prog 108 #[.func (.yield l) #[] #[], .pointer (some ⟨Bt, 0, none⟩)] W fun e W' => (∃ v, e = .returned v) ∧
      ((J (stU 61 ++ tabU M M.length) W' ∧ KB n₀ Bt W W') ∨ (∃ k, k ≤ 61 ∧ Jx (stU k) W') ∨ ∃ k, k ≤ M.length ∧ Jx (stU 61 ++ tabU M k) W') := by
  have HST := Lib.hid (stand_any W)
  refine callsIn_of_wp Tryd.func108 rfl trivial ?_ rfl
  simp only [Tryd.ntmps108, List.size_toArray, List.length_cons, List.length_nil, Nat.reduceAdd, Nat.reduceSub, Array.replicate_succ, Array.replicate_zero, List.push_toArray, List.append_toArray, List.nil_append, List.cons_append]
  gi_wp2_with fail
  refine ⟨trivial, (fun h => (by cases h)), (callsIn_wide.2 HST.out).mono ?_⟩
  rintro e w1 ⟨rfl, hb1⟩
  have hz1 := hb1.size
  gi_wp2_with fail
  gi_loopw [6] (fun s6 wr => AllRel J n₀ Bt W s6 wr) (fun s6 _ => 61 - (intOf s6).toNat)
  case atStart => exact ⟨0, Nat.zero_le _, rfl, hJ _ _ _ h0 hb1, KB.of_below hb1 hn0 hBs⟩
  case round =>
    obtain ⟨k, hk, rfl, hJs, hB⟩ := hrel
    have hz := hB.size
    by_cases hlt : k < 61
    · have hx := fun W => stand_at k hlt W
      have h00 : (0 : Int) ≤ (k : Int) := by omega
      have h01 : (k : Int) < 61 := by omega
      have hsu := stU_succ k
      have hsl := stU_len k
      generalize stH k = g at hx hsu
      have HSU := Lib.hid hsu
      obtain ⟨fn, tmps, assign, body, hy, hR⟩ := hY (n - 1) (stU k) (k + 1, g) (wr.alloc (.cells #[.string g.1, .string g.2, .bool false] 77)) (hJ _ _ _ hJs ((Below.refl _ _).alloc (Nat.le_refl _) _)) (by rw [hsl]; omega)
      have hc : ((k + 1 : Nat) : Int) = (k : Int) + 1 := by omega
      simp only [encT, hc] at hy
      have HR := Lib.hid hR
      have hBa : KB n₀ Bt wr (wr.alloc (.cells #[.string g.1, .string g.2, .bool false] 77)) := KB.of_below ((Below.refl _ _).alloc (Nat.le_refl _) _) (by omega) (by omega)
      have HBA := Lib.hid hBa
      clear hR hc hsu hsl hBa
      gi_wp2_with fail
      refine ⟨(fun h => (by cases h)), HR.out.mono ?_⟩
      rintro e W3 (⟨rfl, hJ3, hk3⟩ | ⟨rfl, hJx3⟩)
      · have hB3 : KB n₀ Bt W W3 := (hB.trans HBA.out).trans hk3
        rw [← HSU.out] at hJ3
        clear hy hx
        gi_wp2
        go_roundw
        case rel => exact ⟨k + 1, by omega, by go_num, hJ3, hB3⟩
        case measure => simp [intOf]; omega
      · rw [← HSU.out] at hJx3
        clear hy hx
        gi_wp2
        refine bodyPost_ret (results_none rfl _ _ _) rfl ?_
        exact ⟨⟨_, rfl⟩, .inr (.inl ⟨k + 1, by omega, hJx3⟩)⟩
    · obtain rfl : k = 61 := by omega
      have hcb := (World.cell?_of_block (a := ⟨Bt, 0, none⟩) hB.box).trans hBt
      have HTL := Lib.hid (tell_in (n - 1) l Bt b n₀ (61 + M.length) M J Jx hJ hY (stU 61) (by rw [stU_len]; omega) wr hb (by omega) (by omega) hr (ht.kept (hB.below.block b hb)) hJs)
      gi_wp2_with fail
      refine ⟨trivial, (fun h => (by cases h)), HTL.out.mono ?_⟩
      rintro e w3 ⟨⟨v, rfl⟩, hres⟩
      have HRES := Lib.hid hres
      clear hres
      gi_wp2_with fail
      go_end0
      refine ⟨⟨_, rfl⟩, ?_⟩
      rcases HRES.out with ⟨h1, h2⟩ | ⟨k, h1, h2⟩
      · exact .inl ⟨h1, hB.trans h2⟩
      · exact .inr (.inr ⟨k, h1, h2⟩)
end Go.Proofs.YtlkieeindnpidaaDoor.Tt
