/-
  CONTRACTS: the map of a request's keepers.
-/
import Derived.Test.YtgoglfahlfkbiaaDoorN
namespace Go.Proofs.YtgoglfahlfkbiaaDoor
open Go.RowKit Tt

/-- A request's keepers. -/
structure ReqMap (w : World) (p r mb bx q1 q2 : Nat) (D : DataW Value) : Prop where
  map : w.ownsMap Tryd.prog 9 fnR mb 8 D
  laid : Laid bx q1 q2 true true true true D
  pm : p ≤ mb
  cb : w.cell? ⟨bx, 0, none⟩ = some (.pointer (some ⟨r, 0, none⟩))
  c1 : w.cell? ⟨q1, 0, none⟩ = some (.pointer (some ⟨r, 0, none⟩))
  c2 : w.cell? ⟨q2, 0, none⟩ = some (.pointer (some ⟨r, 1, none⟩))
  rq : QB w r ⟨⟨#[]⟩, ⟨#[]⟩, ⟨#[]⟩, ⟨#[]⟩⟩
def OfReqPost (r : Nat) (w : World) (e : Ending) (w' : World) : Prop := Below w.heap.size w w' ∧ ∃ mb bx q1 q2 D, e = .returned (.map (some mb)) ∧ ReqMap w' w.heap.size r mb bx q1 q2 D ∧ w.heap.size ≤ bx ∧ w.heap.size ≤ q1 ∧ w.heap.size ≤ q2
theorem off_rep (k n : Nat) : on (Array.replicate n false) k = false := by
  unfold on
  by_cases h : k < n <;> simp [h]
theorem arr15 {ts : Array Value} (h : ts.size = 15) : ∃ t0 t1 t2 t3 t4 t5 t6 t7 t8 t9 t10 t11 t12 t13 t14, ts = #[t0, t1, t2, t3, t4, t5, t6, t7, t8, t9, t10, t11, t12, t13, t14] := by
  obtain ⟨l⟩ := ts
  match l, h with
  | [t0, t1, t2, t3, t4, t5, t6, t7, t8, t9, t10, t11, t12, t13, t14], _ => exact ⟨t0, t1, t2, t3, t4, t5, t6, t7, t8, t9, t10, t11, t12, t13, t14, rfl⟩
theorem wp_val {P : Program} {o : Oper} {a : Act} {w w' : World} {K : Act → World → Prop} {Q : Exit → Act → World → Prop} {v : Value} (h : (execOp a.eval o).run P w = .ok (.value v) w') (hk : K (a.put o.dst v) w') : Oper.wp P o a w K Q := by
  unfold Oper.wp
  rw [h]
  exact hk
theorem wp_fn {P : Program} {o : Oper} {a : Act} {w : World} {K : Act → World → Prop} {Q : Exit → Act → World → Prop} {f : FuncId} {args : Array Value} (h : (execOp a.eval o).run P w = .ok (.enter f args) w)
    (hk : Calls P f args w fun e w' => ∃ v, e = .returned v ∧ K (a.put o.dst v) w') : Oper.wp P o a w K Q := by
  unfold Oper.wp
  rw [h]
  refine Calls.mono hk ?_
  rintro e w' ⟨v, rfl, h2⟩
  exact h2
theorem mixed : Tryd.prog.follows .mixedOrders = true := by kernel_rfl
set_option maxRecDepth 100000 in
set_option maxHeartbeats 4000000 in
theorem ofReq_any (r : Nat) (w : World) (hr : QB w r ⟨⟨#[]⟩, ⟨#[]⟩, ⟨#[]⟩, ⟨#[]⟩⟩) : Calls Tryd.prog 33 #[.pointer (some ⟨r, 0, none⟩)] w (OfReqPost r w) := by
  have hb0 : Below w.heap.size w (w.alloc (.cells #[.pointer (some ⟨r, 0, none⟩)] 72)) := (Below.refl _ w).alloc (Nat.le_refl _) _
  have hbc : (w.alloc (.cells #[.pointer (some ⟨r, 0, none⟩)] 72)).cell? ⟨w.heap.size, 0, none⟩ = some (.pointer (some ⟨r, 0, none⟩)) := by simp
  have hq0 := hr.blk (hb0.block r (cell_lt hr.c0))
  have hz0 : (w.alloc (.cells #[.pointer (some ⟨r, 0, none⟩)] 72)).heap.size = w.heap.size + 1 := by simp
  generalize hw0 : w.alloc (.cells #[.pointer (some ⟨r, 0, none⟩)] 72) = w0 at hb0 hbc hq0 hz0
  have HW0 := Lib.hid hw0
  clear hw0
  go_enter Tryd.func33, Tryd.ntmps33
  go_upto_region 1 with fail
  rw [HW0.out]
  refine wp_region_lat mixed (fun ls a W => ∃ mb q1 q2 n D, RI w w.heap.size w.heap.size r ls mb q1 q2 n D a W) ?_ ?_ ?_
  · refine ⟨0, 0, 0, 0, .nil, rfl, rfl, rfl, rfl, fun i _ h => ?_, fun k _ h => ?_, ?_, ?_, hb0.drew, hbc, ⟨⟨⟨#[]⟩, ⟨#[]⟩, ⟨#[]⟩, ⟨#[]⟩⟩, hq0.blk rfl, rfl, rfl, rfl, rfl⟩, ?_, ?_, ?_, Nat.zero_le _⟩
    · rw [off_rep] at h
      cases h
    · rw [off_rep] at h
      cases h
    all_goals rw [off_rep]
    all_goals exact fun h => by cases h
  · intro ls a W hI hr
    obtain ⟨mb, q1, q2, n, D, hI⟩ := hI
    have hall := all_on (by kernel_rfl) hI.sz hr
    have h16 : on ls 16 = true := hall 16 (by decide)
    have h0 : on ls 0 = true := hall 0 (by decide)
    have h4 : on ls 4 = true := hall 4 (by decide)
    have h5 : on ls 5 = true := hall 5 (by decide)
    have h9 : on ls 9 = true := hall 9 (by decide)
    have h10 : on ls 10 = true := hall 10 (by decide)
    have h12 : on ls 12 = true := hall 12 (by decide)
    have h14 : on ls 14 = true := hall 14 (by decide)
    have hv := hI.v 16 (by decide) h16
    obtain ⟨h1, h2, h3⟩ := hI.mp h0
    have hnb := hI.nb
    rw [h5, h10, h12, h14] at h3 hnb
    obtain ⟨hc1, hc1'⟩ := hI.c1 h4
    obtain ⟨hc2, hc2'⟩ := hI.c2 h9
    obtain ⟨S, hS, e1, e2, e3, e4⟩ := hI.rc
    obtain ⟨sm, ss, sa, sp⟩ := S
    simp only at e1 e2 e3 e4
    subst e1 e2 e3 e4
    have HFIN : Hid (OfReqPost r w (.returned (.map (some mb))) W) := Lib.hid ⟨hI.bl, mb, w.heap.size, q1, q2, D, rfl, ⟨h1.mono (by simp only [Bool.toNat_true] at hnb; omega), h3, h2, hI.bc, hc1', hc2', hS⟩, Nat.le_refl _, hc1, hc2⟩
    obtain ⟨ats, adf⟩ := a
    have hdv := hI.dv
    have hts := hI.ts
    simp only at hdv hts hv
    obtain ⟨t0, t1, t2, t3, t4, t5, t6, t7, t8, t9, t10, t11, t12, t13, t14, rfl⟩ := arr15 hts
    subst hdv
    clear hts hI h0 h4 h5 h9 h10 h12 h14 h16 h1 h2 h3 hnb hc1 hc1' hc2 hc2' hS hall hr
    have hv2 : t2 = .map (some mb) := hv
    clear hv
    subst hv2
    rename_i K hKK
    refine hKK _ _ ?_
    go_wp2_with fail
    go_ret
    exact HFIN.out
  · intro ls a W i hI hi
    obtain ⟨mb, q1, q2, n, D, hI⟩ := hI
    obtain ⟨hun, o, ho, hall⟩ := mem_ready.1 hi
    have hi17 : i < 17 := (Array.getElem?_eq_some_iff.1 ho).1
    have hic : i = 0 ∨ i = 1 ∨ i = 2 ∨ i = 3 ∨ i = 4 ∨ i = 5 ∨ i = 6 ∨ i = 7 ∨ i = 8 ∨ i = 9 ∨ i = 10 ∨ i = 11 ∨ i = 12 ∨ i = 13 ∨ i = 14 ∨ i = 15 ∨ i = 16 := by omega
    obtain ⟨hoff, _⟩ := off_of hun
    have hp : w.heap.size ≤ W.heap.size := hI.bl.size
    rcases hic with rfl | rfl | rfl | rfl | rfl | rfl | rfl | rfl | rfl | rfl | rfl | rfl | rfl | rfl | rfl | rfl | rfl
    · have ho' : some _ = some o := ho
      cases ho'
      have hf := hI.made hoff hp
      exact wpOp_step rfl fun K' hK' => by
        rw [if_pos (by simp [Region.wanted])]
        refine wp_val (v := .map (some W.heap.size)) (w' := W.alloc (.map #[] 0)) ?_ (hK' _ _ ⟨_, _, _, _, _, hf⟩)
        simp [execOp, run_makeMap]
    · have ho' : some _ = some o := ho
      cases ho'
      have hf := hI.quiet 1 (by decide) (by omega)
      exact wpOp_step rfl fun K' hK' => by
        rw [if_pos (by simp [Region.wanted])]
        refine wp_val (v := valOf w.heap.size r mb q1 q2 1) (w' := W) ?_ (hK' _ _ ⟨mb, q1, q2, n, D, hf⟩)
        simp [execOp, Act.eval, valOf, hI.s1, hI.bc, go_sem]
    · have ho' : some _ = some o := ho
      cases ho'
      have d1 : on ls 1 = true := hall ⟨1, .data⟩ (by simp) rfl
      have v1 : a.tmps.getD 4 undef = .pointer (some ⟨r, 0, none⟩) := hI.v 1 (by decide) d1
      have hf := hI.quiet 2 (by decide) (by omega)
      exact wpOp_step rfl fun K' hK' => by
        rw [if_pos (by simp [Region.wanted])]
        refine wp_val (v := valOf w.heap.size r mb q1 q2 2) (w' := W) ?_ (hK' _ _ ⟨mb, q1, q2, n, D, hf⟩)
        simp [execOp, Act.eval, valOf, v1, go_sem]
    · have ho' : some _ = some o := ho
      cases ho'
      have d2 : on ls 2 = true := hall ⟨2, .data⟩ (by simp) rfl
      have v2 : a.tmps.getD 5 undef = .pointer (some ⟨r, 0, none⟩) := hI.v 2 (by decide) d2
      have hf := hI.quiet 3 (by decide) (by omega)
      exact wpOp_step rfl fun K' hK' => by
        rw [if_pos (by simp [Region.wanted])]
        refine wp_val (v := valOf w.heap.size r mb q1 q2 3) (w' := W) ?_ (hK' _ _ ⟨mb, q1, q2, n, D, hf⟩)
        simp [execOp, Act.eval, valOf, v2, go_sem]
    · have ho' : some _ = some o := ho
      cases ho'
      have d3 : on ls 3 = true := hall ⟨3, .data⟩ (by simp) rfl
      have v3 : a.tmps.getD 6 undef = .pointer (some ⟨r, 0, none⟩) := hI.v 3 (by decide) d3
      have hf := hI.call1 hoff hp
      exact wpOp_step rfl fun K' hK' => by
        rw [if_pos (by simp [Region.wanted])]
        refine wp_fn (f := 50) (args := #[.pointer (some ⟨r, 0, none⟩)]) ?_ ((filled_any _ W).mono ?_)
        · simp [execOp, resolve, invoke, Act.eval, v3, go_sem]
        · rintro e w' ⟨rfl, rfl⟩
          exact ⟨_, rfl, hK' _ _ ⟨_, _, _, _, _, hf⟩⟩
    · have ho' : some _ = some o := ho
      cases ho'
      have d0 : on ls 0 = true := hall ⟨0, .data⟩ (by simp) rfl
      have d4 : on ls 4 = true := hall ⟨4, .data⟩ (by simp) rfl
      have v0 : a.tmps.getD 3 undef = .map (some mb) := hI.v 0 (by decide) d0
      have v4 : a.tmps.getD 7 undef = fnC 69 q1 := hI.v 4 (by decide) d4
      have hm := (hI.mp d0).1
      have hnb := hI.nb
      have hn : n < maxLen := by
        have b := fun x : Bool => Bool.toNat_le x
        have := b (on ls 5); have := b (on ls 10); have := b (on ls 12); have := b (on ls 14)
        unfold maxLen
        omega
      obtain ⟨W', hrun, r1, r2⟩ := hm.update (Maps.string_keyed Tryd.underlying9) Tryd.underlying70 hn (val := fnC 69 q1) (Go.WideMaps.keyOf_string_mk (P := Tryd.prog) Tryd.underlying9 (s := ⟨#[58, 109, 101, 116, 104, 111, 100]⟩) (by unfold maxLen; decide)) (d := .held (fnC 69 q1)) (ps := []) rfl
      have hf := hI.ins5 hoff d0 d4 hp r1 r2
      exact wpOp_step rfl fun K' hK' => by
        rw [if_pos (by simp [Region.wanted])]
        unfold Oper.wp
        simp [execOp, Act.eval, v0, v4, hrun, Result.andThen]
        exact hK' _ _ ⟨_, _, _, _, _, hf⟩
    · have ho' : some _ = some o := ho
      cases ho'
      have hf := hI.quiet 6 (by decide) (by omega)
      exact wpOp_step rfl fun K' hK' => by
        rw [if_pos (by simp [Region.wanted])]
        refine wp_val (v := valOf w.heap.size r mb q1 q2 6) (w' := W) ?_ (hK' _ _ ⟨mb, q1, q2, n, D, hf⟩)
        simp [execOp, Act.eval, valOf, hI.s1, hI.bc, go_sem]
    · have ho' : some _ = some o := ho
      cases ho'
      have d6 : on ls 6 = true := hall ⟨6, .data⟩ (by simp) rfl
      have v6 : a.tmps.getD 8 undef = .pointer (some ⟨r, 0, none⟩) := hI.v 6 (by decide) d6
      have hf := hI.quiet 7 (by decide) (by omega)
      exact wpOp_step rfl fun K' hK' => by
        rw [if_pos (by simp [Region.wanted])]
        refine wp_val (v := valOf w.heap.size r mb q1 q2 7) (w' := W) ?_ (hK' _ _ ⟨mb, q1, q2, n, D, hf⟩)
        simp [execOp, Act.eval, valOf, v6, go_sem]
    · have ho' : some _ = some o := ho
      cases ho'
      have d7 : on ls 7 = true := hall ⟨7, .data⟩ (by simp) rfl
      have v7 : a.tmps.getD 9 undef = .pointer (some ⟨r, 0, none⟩) := hI.v 7 (by decide) d7
      have hf := hI.quiet 8 (by decide) (by omega)
      exact wpOp_step rfl fun K' hK' => by
        rw [if_pos (by simp [Region.wanted])]
        refine wp_val (v := valOf w.heap.size r mb q1 q2 8) (w' := W) ?_ (hK' _ _ ⟨mb, q1, q2, n, D, hf⟩)
        simp [execOp, Act.eval, valOf, v7, go_sem]
    · have ho' : some _ = some o := ho
      cases ho'
      have d8 : on ls 8 = true := hall ⟨8, .data⟩ (by simp) rfl
      have v8 : a.tmps.getD 10 undef = .pointer (some ⟨r, 1, none⟩) := hI.v 8 (by decide) d8
      have hf := hI.call2 hoff hp
      exact wpOp_step rfl fun K' hK' => by
        rw [if_pos (by simp [Region.wanted])]
        refine wp_fn (f := 50) (args := #[.pointer (some ⟨r, 1, none⟩)]) ?_ ((filled_any _ W).mono ?_)
        · simp [execOp, resolve, invoke, Act.eval, v8, go_sem]
        · rintro e w' ⟨rfl, rfl⟩
          exact ⟨_, rfl, hK' _ _ ⟨_, _, _, _, _, hf⟩⟩
    · have ho' : some _ = some o := ho
      cases ho'
      have d0 : on ls 0 = true := hall ⟨0, .data⟩ (by simp) rfl
      have d9 : on ls 9 = true := hall ⟨9, .data⟩ (by simp) rfl
      have v0 : a.tmps.getD 3 undef = .map (some mb) := hI.v 0 (by decide) d0
      have v9 : a.tmps.getD 11 undef = fnC 69 q2 := hI.v 9 (by decide) d9
      have hm := (hI.mp d0).1
      have hnb := hI.nb
      have hn : n < maxLen := by
        have b := fun x : Bool => Bool.toNat_le x
        have := b (on ls 5); have := b (on ls 10); have := b (on ls 12); have := b (on ls 14)
        unfold maxLen
        omega
      obtain ⟨W', hrun, r1, r2⟩ := hm.update (Maps.string_keyed Tryd.underlying9) Tryd.underlying70 hn (val := fnC 69 q2) (Go.WideMaps.keyOf_string_mk (P := Tryd.prog) Tryd.underlying9 (s := ⟨#[58, 115, 99, 104, 101, 109, 101]⟩) (by unfold maxLen; decide)) (d := .held (fnC 69 q2)) (ps := []) rfl
      have hf := hI.ins10 hoff d0 d9 hp r1 r2
      exact wpOp_step rfl fun K' hK' => by
        rw [if_pos (by simp [Region.wanted])]
        unfold Oper.wp
        simp [execOp, Act.eval, v0, v9, hrun, Result.andThen]
        exact hK' _ _ ⟨_, _, _, _, _, hf⟩
    · have ho' : some _ = some o := ho
      cases ho'
      have hf := hI.quiet 11 (by decide) (by omega)
      exact wpOp_step rfl fun K' hK' => by
        rw [if_pos (by simp [Region.wanted])]
        refine wp_val (v := valOf w.heap.size r mb q1 q2 11) (w' := W) ?_ (hK' _ _ ⟨mb, q1, q2, n, D, hf⟩)
        simp [execOp, Act.eval, valOf, hI.s1, go_sem]
    · have ho' : some _ = some o := ho
      cases ho'
      have d0 : on ls 0 = true := hall ⟨0, .data⟩ (by simp) rfl
      have d11 : on ls 11 = true := hall ⟨11, .data⟩ (by simp) rfl
      have v0 : a.tmps.getD 3 undef = .map (some mb) := hI.v 0 (by decide) d0
      have v11 : a.tmps.getD 12 undef = fnC 51 w.heap.size := hI.v 11 (by decide) d11
      have hm := (hI.mp d0).1
      have hnb := hI.nb
      have hn : n < maxLen := by
        have b := fun x : Bool => Bool.toNat_le x
        have := b (on ls 5); have := b (on ls 10); have := b (on ls 12); have := b (on ls 14)
        unfold maxLen
        omega
      obtain ⟨W', hrun, r1, r2⟩ := hm.update (Maps.string_keyed Tryd.underlying9) Tryd.underlying70 hn (val := fnC 51 w.heap.size) (Go.WideMaps.keyOf_string_mk (P := Tryd.prog) Tryd.underlying9 (s := ⟨#[58, 97, 117, 116, 104, 111, 114, 105, 116, 121]⟩) (by unfold maxLen; decide)) (d := .held (fnC 51 w.heap.size)) (ps := []) rfl
      have hf := hI.ins12 hoff d0 hp r1 r2
      exact wpOp_step rfl fun K' hK' => by
        rw [if_pos (by simp [Region.wanted])]
        unfold Oper.wp
        simp [execOp, Act.eval, v0, v11, hrun, Result.andThen]
        exact hK' _ _ ⟨_, _, _, _, _, hf⟩
    · have ho' : some _ = some o := ho
      cases ho'
      have hf := hI.quiet 13 (by decide) (by omega)
      exact wpOp_step rfl fun K' hK' => by
        rw [if_pos (by simp [Region.wanted])]
        refine wp_val (v := valOf w.heap.size r mb q1 q2 13) (w' := W) ?_ (hK' _ _ ⟨mb, q1, q2, n, D, hf⟩)
        simp [execOp, Act.eval, valOf, hI.s1, go_sem]
    · have ho' : some _ = some o := ho
      cases ho'
      have d0 : on ls 0 = true := hall ⟨0, .data⟩ (by simp) rfl
      have d13 : on ls 13 = true := hall ⟨13, .data⟩ (by simp) rfl
      have v0 : a.tmps.getD 3 undef = .map (some mb) := hI.v 0 (by decide) d0
      have v13 : a.tmps.getD 13 undef = fnC 52 w.heap.size := hI.v 13 (by decide) d13
      have hm := (hI.mp d0).1
      have hnb := hI.nb
      have hn : n < maxLen := by
        have b := fun x : Bool => Bool.toNat_le x
        have := b (on ls 5); have := b (on ls 10); have := b (on ls 12); have := b (on ls 14)
        unfold maxLen
        omega
      obtain ⟨W', hrun, r1, r2⟩ := hm.update (Maps.string_keyed Tryd.underlying9) Tryd.underlying70 hn (val := fnC 52 w.heap.size) (Go.WideMaps.keyOf_string_mk (P := Tryd.prog) Tryd.underlying9 (s := ⟨#[58, 112, 97, 116, 104]⟩) (by unfold maxLen; decide)) (d := .held (fnC 52 w.heap.size)) (ps := []) rfl
      have hf := hI.ins14 hoff d0 hp r1 r2
      exact wpOp_step rfl fun K' hK' => by
        rw [if_pos (by simp [Region.wanted])]
        unfold Oper.wp
        simp [execOp, Act.eval, v0, v13, hrun, Result.andThen]
        exact hK' _ _ ⟨_, _, _, _, _, hf⟩
    · have ho' : some _ = some o := ho
      cases ho'
      have d0 : on ls 0 = true := hall ⟨0, .data⟩ (by simp) rfl
      have v0 : a.tmps.getD 3 undef = .map (some mb) := hI.v 0 (by decide) d0
      have hf := hI.quiet 15 (by decide) (by intro _; exact d0)
      exact wpOp_step rfl fun K' hK' => by
        rw [if_pos (by simp [Region.wanted])]
        refine wp_val (v := valOf w.heap.size r mb q1 q2 15) (w' := W) ?_ (hK' _ _ ⟨mb, q1, q2, n, D, hf⟩)
        simp [execOp, Act.eval, valOf, v0, go_sem]
    · have ho' : some _ = some o := ho
      cases ho'
      have d0 : on ls 0 = true := hall ⟨0, .phase⟩ (by simp) rfl
      have d15 : on ls 15 = true := hall ⟨15, .data⟩ (by simp) rfl
      have v15 : a.tmps.getD 14 undef = .map (some mb) := hI.v 15 (by decide) d15
      have hf := hI.quiet 16 (by decide) (by intro _; exact d0)
      exact wpOp_step rfl fun K' hK' => by
        rw [if_pos (by simp [Region.wanted])]
        refine wp_val (v := valOf w.heap.size r mb q1 q2 16) (w' := W) ?_ (hK' _ _ ⟨mb, q1, q2, n, D, hf⟩)
        simp [execOp, Act.eval, valOf, v15, go_sem]
end Go.Proofs.YtgoglfahlfkbiaaDoor
