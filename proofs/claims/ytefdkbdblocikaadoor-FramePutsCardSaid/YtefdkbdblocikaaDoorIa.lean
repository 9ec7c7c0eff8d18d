/-
  KIT: what a frame says, stored and read whole.
-/
import Derived.Test.YtefdkbdblocikaaDoorJ
import Derived.Deep.MidRow
namespace Go.Proofs.YtefdkbdblocikaaDoor
open Go.RowKit Hu

theorem info_size : (Tryd.prog.info? 47).map (·.size) = some 18 := by kernel_rfl
theorem setCells_kb (b : Nat) : ∀ (vs : List Value) (o : Nat) (w : World), Kb b w (w.setCells b o vs) ∧ (w.setCells b o vs).heap.size = w.heap.size
  | [], o, w => ⟨Kb.refl _ _, rfl⟩
  | v :: vs, o, w => by
    have h := setCells_kb b vs (o + 1) (w.setCell ⟨b, o, none⟩ v)
    exact ⟨(Kb.set w o v).trans h.1, h.2.trans (by simp [World.setCell])⟩
theorem one18 (J : IV) (hs : J.sv.oneCell' = true) (hd : J.dv.oneCell' = true) : J.cells.toArray.all (·.oneCell') = true := by
  refine all_oneCell_toArray fun v hv => ?_
  simp only [IV.cells, List.mem_cons, List.not_mem_nil, or_false] at hv
  rcases hv with rfl | rfl | rfl | rfl | rfl | rfl | rfl | rfl | rfl | rfl | rfl | rfl | rfl | rfl | rfl | rfl | rfl | rfl
  all_goals first | rfl | exact hs | exact hd
theorem Ib.there {w : World} {p : Nat} {I : IV} (h : Ib w p I) : w.there p 0 18 := fun j hj => by
  obtain ⟨v, hv⟩ : ∃ v, I.cells[j]? = some v := ⟨_, List.getElem?_eq_getElem (by rw [cells_len]; exact hj)⟩
  rw [Nat.zero_add]
  exact ⟨by rw [h.c j v hv]; rfl, h.z j⟩
theorem Ib.range {w : World} {p : Nat} {I : IV} (h : Ib w p I) : w.rangeAt p 0 I.cells := fun j v hv => by
  rw [Nat.zero_add]
  exact h.c j v hv
theorem ib_stored {w : World} {p : Nat} {I : IV} (h : Ib w p I) (J : IV) : Ib (w.setCells p 0 J.cells) p J := by
  refine ⟨fun j v hv => ?_, fun i => by rw [World.frozen?_setCells]; exact h.z i⟩
  have := World.rangeAt_setCells_same w p 0 J.cells (by rw [cells_len]; exact h.there) j v hv
  rw [Nat.zero_add] at this
  exact this
/-- What a frame says is stored in a box. -/
theorem wp_store_info {ops : Array Oper} {rest : List Oper} {op : Oper} {a : Act} {w : World} {Q : Exit → Act → World → Prop} (hgd : op.guard = none) (x y : Operand) (ho : op.op = .store 47 x y)
    (p : Nat) (I J : IV) (hI : Ib w p I) (hx : a.eval x = .pointer (some ⟨p, 0, none⟩)) (hy : a.eval y = J.val) (hs : J.sv.oneCell' = true) (hd : J.dv.oneCell' = true)
    (hK : ∀ w', Ib w' p J → Kb p w w' → w'.heap.size = w.heap.size → wpList Tryd.prog ops Q rest (a.put op.dst undef) w') : wpList Tryd.prog ops Q (op :: rest) a w := by
  have hk := setCells_kb p J.cells 0 w
  exact wpList_store_mid hgd 47 x y ho p 0 J.cells.toArray hx hy hI.there info_size (one18 J hs hd) (hK _ (ib_stored hI J) hk.1 hk.2)
/-- .. is read whole. -/
theorem load_info {w : World} {p : Nat} {I : IV} (h : Ib w p I) : (loadVar 47 ⟨p, 0, none⟩).run Tryd.prog w = .ok I.val w :=
  run_loadVar_mid w p 0 47 I.cells _ h.range Tryd.underlying47 rfl info_size
theorem wp_load_info {ops : Array Oper} {rest : List Oper} {op : Oper} {a : Act} {w : World} {Q : Exit → Act → World → Prop} (hgd : op.guard = none) (x : Operand) (ho : op.op = .load 47 x)
    (p : Nat) (I : IV) (hI : Ib w p I) (hx : a.eval x = .pointer (some ⟨p, 0, none⟩)) (hK : wpList Tryd.prog ops Q rest (a.put op.dst I.val) w) : wpList Tryd.prog ops Q (op :: rest) a w :=
  wpList_load_mid hgd 47 x ho p 0 hx I.cells _ hI.range Tryd.underlying47 rfl info_size hK
set_option maxRecDepth 100000 in
/-- What a function answers that has an Info in the box of slot 2, an error in slot 3. -/
theorem res_info {f : Func} (hf : f.results = #[.cell 2 47, .tmp 3]) {w : World} {p : Nat} {J : IV} (h : Ib w p J) (v : Value) (tmps : Array Value) (h2 : tmps.getD 2 undef = .pointer (some ⟨p, 0, none⟩)) (h3 : tmps.getD 3 undef = v) :
    (results f tmps).run Tryd.prog w = .ok (.tuple #[J.val, v]) w := by
  have hld := load_info h
  unfold results
  simp only [hf]
  simp only [List.mapM_toArray, List.mapM_cons, List.mapM_nil, h2, h3, asAddr, pure_bind, bind_assoc, map_eq_pure_bind]
  rw [Sem.run_bind, hld]
  simp
end Go.Proofs.YtefdkbdblocikaaDoor
