/-
  CONTRACTS: Find.
-/
import Derived.Test.YtlkieeindnpidaaDoorTtT
namespace Go.Proofs.YtlkieeindnpidaaDoor.Tt
open Go.RowKit Go.Shelf
attribute [local go_sem] Oper.semAt_some

/-- All headers with their indexes. -/
def allL (M : List Hd) : List Told := stU 61 ++ tabU M M.length
theorem allL_len (M : List Hd) : (allL M).length = 61 + M.length := by simp [allL, stU_len, tabU_len]
theorem stU_pre (M : List Hd) {k : Nat} (hk : k ≤ 61) : stU k <+: allL M := by
  have h : stU k <+: stU 61 := by
    have e : stU k = (stU 61).take k := by simp [stU, ← List.map_take, List.take_range, Nat.min_eq_left hk]
    rw [e]
    exact List.take_prefix _ _
  exact h.trans (List.prefix_append _ _)
theorem tabU_pre (M : List Hd) {k : Nat} (hk : k ≤ M.length) : stU 61 ++ tabU M k <+: allL M := by
  have h : tabU M k <+: tabU M M.length := by
    have e : tabU M k = (tabU M M.length).take k := by simp [tabU, ← List.map_take, List.take_range, Nat.min_eq_left hk]
    rw [e]
    exact List.take_prefix _ _
  unfold allL
  exact List.prefix_append_right_inj _ |>.2 h
theorem abides_below {B : Nat} {J : List Told → World → Prop} (h : AbidesFrom B J) (s : List Told) (W W' : World) (hs : J s W) (hb : Below W.heap.size W W') : J s W' :=
  h s W W' none hs ⟨hb.os, hb.tape, hb.output, hb.size, fun k hk _ => hb.block k hk⟩ (fun r e => by cases e)
theorem all_stops (n Bt b n₀ : Nat) (M : List Hd) {R : Nat → Hd} {o s m : Nat} (w : World) (hBw : Bt < w.heap.size) (hb : b < n₀) (hn0 : n₀ ≤ w.heap.size) (hBt : w.cell? ⟨Bt, 0, none⟩ = some (.pointer (some ⟨b, 0, none⟩))) (hr : Rg R o M) (ht : Tb w b R o M.length s m) :
    SeqStopsK Fence.wide n Tryd.prog 108 #[.pointer (some ⟨Bt, 0, none⟩)] encT (KB n₀ Bt) (fun ys => ys = allL M) (fun pre => pre <+: allL M) (61 + M.length) w := fun l J Jx W hW hJ _ hY h0 => by
  have := all1_in n l Bt b n₀ M J Jx (abides_below hJ) (fun q pre x W hj hl => YieldAt.any q (hY pre x W hj hl)) W ((hW.cell (p := ⟨Bt, 0, none⟩) hBw).trans hBt) hb (Nat.le_trans hn0 hW.size) (Nat.lt_of_lt_of_le hBw hW.size) hr (ht.kept (hW.block b (by omega))) h0
  refine this.mono ?_
  rintro e W' ⟨hv, h⟩
  refine ⟨hv, ?_⟩
  rcases h with ⟨h1, _⟩ | ⟨k, h1, h2⟩ | ⟨k, h1, h2⟩
  · exact .inl ⟨_, rfl, h1⟩
  · exact .inr ⟨_, stU_pre M h1, h2⟩
  · exact .inr ⟨_, tabU_pre M h1, h2⟩
theorem all_in (n : Nat) (p : Option Addr) (w : World) : CallsIn Fence.wide n Tryd.prog 94 #[.pointer p] w fun e w' => e = .returned (.func (.func 108) #[] #[.pointer (some ⟨w.heap.size, 0, none⟩)]) ∧ w' = w.alloc (.cells #[.pointer p] 95) := by
  refine callsIn_of_wp Tryd.func94 rfl trivial ?_ rfl
  simp only [Tryd.ntmps94, List.size_toArray, List.length_cons, List.length_nil, Nat.reduceAdd, Nat.reduceSub, Array.replicate_succ, Array.replicate_zero, List.push_toArray, List.append_toArray, List.nil_append, List.cons_append]
  gi_wp2
  go_ret
  exact ⟨rfl, rfl⟩

def hit (name value : ByteArray) (x : Told) : Bool := decide (x.2.1 = name) && decide (x.2.2 = value)
def lea (name : ByteArray) (l : List Told) : Nat := l.foldl (fun a x => if x.2.1 = name then (if a = 0 then x.1 else a) else a) 0
def fnd (name value : ByteArray) (l : List Told) : Nat × Bool := match l.find? (hit name value) with
  | some x => (x.1, true)
  | none => (lea name l, false)

theorem lea_snoc (name : ByteArray) (l : List Told) (x : Told) : lea name (l ++ [x]) = if x.2.1 = name then (if lea name l = 0 then x.1 else lea name l) else lea name l := by
  unfold lea
  rw [List.foldl_append]
  rfl
theorem no_snoc {name value : ByteArray} {l : List Told} {x : Told} (h : ∀ y ∈ l, hit name value y = false) (hx : hit name value x = false) : ∀ y ∈ l ++ [x], hit name value y = false := by
  intro y hy
  rcases List.mem_append.1 hy with h1 | h1
  · exact h y h1
  · simp at h1; subst h1; exact hx
/-- Between two rounds. -/
structure FI (name value : ByteArray) (w : World) (pre : List Told) (W : World) : Prop where
  n : Boxed W w.heap.size 9 (.string name)
  v : Boxed W (w.heap.size + 1) 9 (.string value)
  i : Boxed W (w.heap.size + 1 + 1) 3 (.int .i64 0)
  o : Boxed W (w.heap.size + 1 + 1 + 1) 4 (.bool false)
  l : Boxed W (w.heap.size + 1 + 1 + 1 + 1) 3 (.int .i64 (lea name pre : Int))
  no : ∀ y ∈ pre, hit name value y = false
  b : Below w.heap.size w W
  sz : w.heap.size + 1 + 1 + 1 + 1 + 1 < W.heap.size
/-- A round has left. -/
structure FX (name value : ByteArray) (w : World) (c : Code) (pre : List Told) (W : World) : Prop where
  c : c = .ret
  hit : ∃ q x, pre = q ++ [x] ∧ (∀ y ∈ q, hit name value y = false) ∧ hit name value x = true ∧ Boxed W (w.heap.size + 1 + 1) 3 (.int .i64 (x.1 : Int))
  o : Boxed W (w.heap.size + 1 + 1 + 1) 4 (.bool true)
  b : Below w.heap.size w W
theorem blk_kept {X Y : World} {row : Option Nat} {B : Nat} {cs : Array Value} {t : TypeId} {z : Nat × Nat} (h : X.heap[B]? = some (.cells cs t z)) (hg : X.grownBy Y row) (hr : ∀ r, row = some r → ∃ o : Obj, X.heap[r]? = some o ∧ o.isCells = false) : Y.heap[B]? = some (.cells cs t z) :=
  (hg.block B (Array.getElem?_eq_some_iff.1 h).1 (fun e => by obtain ⟨o, ho, hc⟩ := hr B e.symm; rw [h] at ho; cases ho; cases hc)).trans h
theorem fi_own {name value : ByteArray} {w W0 : World} (hB : w.heap.size ≤ W0.heap.size) : OwnFrom W0.heap.size (FI name value w) := fun s X Y row hs hg hr =>
  ⟨blk_kept hs.n hg (fun r e => (hr r e).2), blk_kept hs.v hg (fun r e => (hr r e).2), blk_kept hs.i hg (fun r e => (hr r e).2), blk_kept hs.o hg (fun r e => (hr r e).2), blk_kept hs.l hg (fun r e => (hr r e).2), hs.no,
   hs.b.grown hg hs.b.size (fun k e => Nat.le_trans hB (hr k e).1), Nat.lt_of_lt_of_le hs.sz hg.size⟩
theorem fx_own {name value : ByteArray} {w W0 : World} (hB : w.heap.size ≤ W0.heap.size) (c : Code) : OwnFrom W0.heap.size (FX name value w c) := fun s X Y row hs hg hr => by
  obtain ⟨h1, ⟨q, x, e1, e2, e3, e4⟩, h3, h4⟩ := hs
  exact ⟨h1, ⟨q, x, e1, e2, e3, blk_kept e4 hg (fun r e => (hr r e).2)⟩, blk_kept h3 hg (fun r e => (hr r e).2), h4.grown hg h4.size (fun k e => Nat.le_trans hB (hr k e).1)⟩
theorem fi_alloc {name value : ByteArray} {w W : World} {pre : List Told} (h : FI name value w pre W) (o : Obj) : FI name value w pre (W.alloc o) :=
  ⟨h.n.alloc _, h.v.alloc _, h.i.alloc _, h.o.alloc _, h.l.alloc _, h.no, h.b.alloc h.b.size _, by have := h.sz; simp; omega⟩
theorem kb_b {n₀ Bt : Nat} {w : World} (hn : n₀ ≤ w.heap.size) (hb : Bt < w.heap.size) (W : World) (l : Nat) (o o' : Obj) (hl : w.heap.size ≤ l) (h : W.heap[l]? = some o) (h1 : o.isCells = false) (h2 : o.isWalk = false) : KB n₀ Bt W (W.putObj l o') :=
  ⟨belowK_b hn W l o o' hl h h1 h2, World.putObj_heap_other (by omega)⟩

set_option maxRecDepth 100000 in
set_option maxHeartbeats 2000000 in
theorem find_in (b : Nat) (name value : ByteArray) (M : List Hd) {R : Nat → Hd} {o s m : Nat} (w : World) (hr : Rg R o M) (ht : Tb w b R o M.length s m) :
    CallsIn Fence.wide 9 Tryd.prog 80 #[.pointer (some ⟨b, 0, none⟩), .string name, .string value] w fun e w' => e = .returned (.tuple #[.int .i64 ((fnd name value (allL M)).1 : Int), .bool (fnd name value (allL M)).2]) ∧ Below w.heap.size w w' := by
  refine callsIn_of_wp_marks Tryd.func80 rfl trivial ?_ rfl
  simp only [Tryd.ntmps80, List.size_toArray, List.length_cons, List.length_nil, Nat.reduceAdd, Nat.reduceSub, Array.replicate_succ, Array.replicate_zero, List.push_toArray, List.append_toArray, List.nil_append, List.cons_append]
  gi_wp2_with fail
  refine ⟨trivial, (all_in _ _ _).mono ?_⟩
  rintro e w1 ⟨rfl, rfl⟩
  have bN := ((((Boxed.new w 9 (.string name)).alloc (.cells #[.string value] 9)).alloc (.cells #[.int .i64 0] 3)).alloc (.cells #[.bool false] 4)).alloc (.cells #[.int .i64 0] 3) |>.alloc (.cells #[.pointer (some ⟨b, 0, none⟩)] 95)
  have bV := ((((Boxed.new (w.alloc (.cells #[.string name] 9)) 9 (.string value))).alloc (.cells #[.int .i64 0] 3)).alloc (.cells #[.bool false] 4)).alloc (.cells #[.int .i64 0] 3) |>.alloc (.cells #[.pointer (some ⟨b, 0, none⟩)] 95)
  have bI := (((Boxed.new ((w.alloc (.cells #[.string name] 9)).alloc (.cells #[.string value] 9)) 3 (.int .i64 0))).alloc (.cells #[.bool false] 4)).alloc (.cells #[.int .i64 0] 3) |>.alloc (.cells #[.pointer (some ⟨b, 0, none⟩)] 95)
  have bO := ((Boxed.new (((w.alloc (.cells #[.string name] 9)).alloc (.cells #[.string value] 9)).alloc (.cells #[.int .i64 0] 3)) 4 (.bool false))).alloc (.cells #[.int .i64 0] 3) |>.alloc (.cells #[.pointer (some ⟨b, 0, none⟩)] 95)
  have bL := (Boxed.new ((((w.alloc (.cells #[.string name] 9)).alloc (.cells #[.string value] 9)).alloc (.cells #[.int .i64 0] 3)).alloc (.cells #[.bool false] 4)) 3 (.int .i64 0)) |>.alloc (.cells #[.pointer (some ⟨b, 0, none⟩)] 95)
  have bT := Boxed.new (((((w.alloc (.cells #[.string name] 9)).alloc (.cells #[.string value] 9)).alloc (.cells #[.int .i64 0] 3)).alloc (.cells #[.bool false] 4)).alloc (.cells #[.int .i64 0] 3)) 95 (.pointer (some ⟨b, 0, none⟩))
  simp only [World.size_alloc] at bV bI bO bL bT
  have hB0 : Below w.heap.size w ((((((w.alloc (.cells #[.string name] 9)).alloc (.cells #[.string value] 9)).alloc (.cells #[.int .i64 0] 3)).alloc (.cells #[.bool false] 4)).alloc (.cells #[.int .i64 0] 3)).alloc (.cells #[.pointer (some ⟨b, 0, none⟩)] 95)) :=
    ((((((Below.refl _ w).alloc (Nat.le_refl _) _).alloc (by simp) _).alloc (by simp; omega) _).alloc (by simp; omega) _).alloc (by simp; omega) _).alloc (by simp; omega) _
  have hsz : ((((((w.alloc (.cells #[.string name] 9)).alloc (.cells #[.string value] 9)).alloc (.cells #[.int .i64 0] 3)).alloc (.cells #[.bool false] 4)).alloc (.cells #[.int .i64 0] 3)).alloc (.cells #[.pointer (some ⟨b, 0, none⟩)] 95)).heap.size = w.heap.size + 6 := by simp
  gi_wp2_with fail
  obtain ⟨W0, hW0⟩ : ∃ W0, (((((w.alloc (.cells #[.string name] 9)).alloc (.cells #[.string value] 9)).alloc (.cells #[.int .i64 0] 3)).alloc (.cells #[.bool false] 4)).alloc (.cells #[.int .i64 0] 3)).alloc (.cells #[.pointer (some ⟨b, 0, none⟩)] 95) = W0 := ⟨_, rfl⟩
  rw [hW0] at bN bV bI bO bL bT hB0 hsz ⊢
  clear hW0
  have ht0 := ht.below hB0
  refine wpIn_rangeFunc_ownH rfl (by omega) (gf := 108) (lb := #[.pointer (some ⟨w.heap.size + 1 + 1 + 1 + 1 + 1, 0, none⟩)]) rfl trivial (enters_of Tryd.func108 (by kernel_rfl) rfl)
    (all_stops 8 (w.heap.size + 1 + 1 + 1 + 1 + 1) b w.heap.size M W0 (by omega) ht.lt (by omega) bT.cell hr ht0) (fun h k => h.trans k) (kb_b (by omega) (by omega)) (Below.refl _ _) (fun _ => rfl)
    (fun pre W => FI name value w pre W)
    (fun c pre W => FX name value w c pre W)
    (fi_own (by omega)) (fx_own (by omega))
    ⟨bN, bV, bI, bO, by simpa [lea] using bL, by simp, hB0, by omega⟩
    (fun x a' W => ∃ Bx, w.heap.size + 1 + 1 + 1 + 1 + 1 < Bx ∧ W.heap[Bx]? = some (.cells #[.string x.2.1, .string x.2.2, .bool false] 77 (0, 0)) ∧ a' = { tmps := #[.pointer (some ⟨b, 0, none⟩), .string name, .string value, undef, .pointer (some ⟨w.heap.size, 0, none⟩), .pointer (some ⟨w.heap.size + 1, 0, none⟩), .pointer (some ⟨w.heap.size + 1 + 1, 0, none⟩), .pointer (some ⟨w.heap.size + 1 + 1 + 1, 0, none⟩), .pointer (some ⟨w.heap.size + 1 + 1 + 1 + 1, 0, none⟩), .int .i64 (x.1 : Int), .pointer (some ⟨Bx, 0, none⟩), .pointer (some ⟨b, 0, none⟩), .func (.func 108) #[] #[.pointer (some ⟨w.heap.size + 1 + 1 + 1 + 1 + 1, 0, none⟩)], .int .i64 (x.1 : Int), hdV x.2, undef, undef, undef, undef, undef, undef, undef, undef, undef, undef, undef, undef, undef], defers := [] })
    (fun x a' _ X Y row hs hg hr => by obtain ⟨Bx, h1, h2, h3⟩ := hs; exact ⟨Bx, h1, blk_kept h2 hg (fun r e => (hr r e).2), h3⟩)
    ?assign ?body ?done ?stop
  case assign =>
    rintro l pre x W K hi hK
    simp only [encT]
    gi_wp2
    have hs := hi.b.size
    exact hK _ _ ((KeepsOthers.alloc _ _).from _) (KB.of_below ((Below.refl _ W).alloc (Nat.le_refl _) _) hs hi.sz) (fi_alloc hi _) ⟨W.heap.size, hi.sz, World.alloc_heap_new W _, rfl⟩
  case body =>
    rintro l pre x a' W hl ⟨r, hr⟩ hi ⟨Bx, hBx, bX, rfl⟩ hlt
    have cN := hi.n.cell
    have cV := hi.v.cell
    have cL := hi.l.cell
    have fI := hi.i.frozen
    have fO := hi.o.frozen
    have fL := hi.l.frozen
    have cI := hi.i.cell
    have cO := hi.o.cell
    have x0 : W.cell? ⟨Bx, 0, none⟩ = some (.string x.2.1) := by simp [World.cell?, bX]
    have x1 : W.cell? ⟨Bx, 1, none⟩ = some (.string x.2.2) := by simp [World.cell?, bX]
    have x2 : W.cell? ⟨Bx, 2, none⟩ = some (.bool false) := by simp [World.cell?, bX]
    have HI := Lib.hid hi
    have HX := Lib.hid bX
    clear bX hi
    by_cases hn : x.2.1 = name
    · by_cases hv : x.2.2 = value
      · have e1 : x.2.1.toList = name.toList := by rw [hn]
        have e2 : x.2.2.toList = value.toList := by rw [hv]
        have HN := Lib.hid hn
        have HV := Lib.hid hv
        clear hn hv
        gi_wp2
        exact ⟨((KeepsOthers.setCell _ _ _).trans (KeepsOthers.setCell _ _ _)).from _, rfl, ⟨pre, x, rfl, HI.out.no, by unfold hit; rw [HN.out, HV.out]; simp, (HI.out.i.set _).other (by omega) _⟩, (HI.out.o.other (by omega) _).set _,
          (HI.out.b.setCell (p := ⟨w.heap.size + 1 + 1, 0, none⟩) (by simp only []; omega) _).setCell (p := ⟨w.heap.size + 1 + 1 + 1, 0, none⟩) (by simp only []; omega) _⟩
      · have hvn := ba_ne hv
        have hvn' : ¬ x.2.2.toList = value.toList := fun e => hv (ba_inj e)
        have e1 : x.2.1.toList = name.toList := by rw [hn]
        have HN := Lib.hid hn
        have HV := Lib.hid hv
        clear hn hv
        by_cases hz : lea name pre = 0
        · have hzb : (((lea name pre : Nat) : Int) == 0) = true := by rw [hz]; rfl
          have HZ := Lib.hid hz
          clear hz
          gi_wp2
          have hne : w.heap.size + 1 + 1 + 1 + 1 + 1 ≠ w.heap.size + 1 + 1 + 1 + 1 := by omega
          have hl2 : lea name (pre ++ [x]) = x.1 := by rw [lea_snoc, if_pos HN.out, if_pos HZ.out]
          refine ⟨(KeepsOthers.setCell _ _ _).from _, ⟨(Below.refl _ W).setCell (p := ⟨w.heap.size + 1 + 1 + 1 + 1, 0, none⟩) (by simp only []; omega) _, Below.heap_setCell _ _ _ _ hne⟩, ?_⟩
          exact ⟨HI.out.n.other (by omega) _, HI.out.v.other (by omega) _, HI.out.i.other (by omega) _, HI.out.o.other (by omega) _, by rw [hl2]; exact HI.out.l.set _,
            no_snoc HI.out.no (by unfold hit; simp [HV.out]), HI.out.b.setCell (p := ⟨w.heap.size + 1 + 1 + 1 + 1, 0, none⟩) (by simp only []; omega) _, by have := HI.out.sz; simp only [World.size_setCell]; omega⟩
        · have hzb : (((lea name pre : Nat) : Int) == 0) = false := by rw [beq_eq_false_iff_ne]; omega
          have HZ := Lib.hid hz
          clear hz
          gi_wp2
          have hl2 : lea name (pre ++ [x]) = lea name pre := by rw [lea_snoc, if_pos HN.out, if_neg HZ.out]
          exact ⟨KeepsFrom.refl _ _, KB.refl _ _ _, HI.out.n, HI.out.v, HI.out.i, HI.out.o, by rw [hl2]; exact HI.out.l, no_snoc HI.out.no (by unfold hit; simp [HV.out]), HI.out.b, HI.out.sz⟩
    · have hnn := ba_ne hn
      have hnn' : ¬ x.2.1.toList = name.toList := fun e => hn (ba_inj e)
      have HN := Lib.hid hn
      clear hn
      gi_wp2
      have hl2 : lea name (pre ++ [x]) = lea name pre := by rw [lea_snoc, if_neg HN.out]
      exact ⟨KeepsFrom.refl _ _, KB.refl _ _ _, HI.out.n, HI.out.v, HI.out.i, HI.out.o, by rw [hl2]; exact HI.out.l, no_snoc HI.out.no (by unfold hit; simp [HN.out]), HI.out.b, HI.out.sz⟩
  case done =>
    rintro D ys W hD rfl hi hK
    have cL := hi.l.cell
    have fI := hi.i.frozen
    have fO := hi.o.frozen
    have cI := hi.i.cell
    have cO := hi.o.cell
    have HI := Lib.hid hi
    have HK := Lib.hid hK
    have hf : fnd name value (allL M) = (lea name (allL M), false) := by
      unfold fnd
      rw [List.find?_eq_none.2 (fun y hy => by rw [hi.no y hy]; simp)]
    have HF := Lib.hid hf
    clear hf hi hK
    obtain ⟨al, hal⟩ : ∃ al, al = allL M := ⟨_, rfl⟩
    have HAL := Lib.hid hal
    rw [← hal] at HI cL
    clear hal
    gi_wp2
    have hK' := ((KeepsOthers.setCell W ⟨w.heap.size + 1 + 1, 0, none⟩ (.int .i64 (lea name al : Int))).trans (KeepsOthers.setCell _ ⟨w.heap.size + 1 + 1 + 1, 0, none⟩ (.bool false))).same D _ HK.out rfl
    refine ⟨by simp, .inl ⟨_, _, rfl, run_takeDeferred hK', ?_⟩⟩
    have b1 := ((HI.out.i.set (.int .i64 (lea name al : Int))).other (B' := w.heap.size + 1 + 1 + 1) (by omega) (.bool false)).kept (grownBy_putObj' _ D (.deferred none)) (by intro e; cases e; omega)
    have b2 := ((HI.out.o.other (B' := w.heap.size + 1 + 1) (by omega) (.int .i64 (lea name al : Int))).set (.bool false)).kept (grownBy_putObj' _ D (.deferred none)) (by intro e; cases e; omega)
    have c1 := b1.cell
    have c2 := b2.cell
    refine ⟨.tuple #[.int .i64 (lea name al : Int), .bool false], ?_, by rw [HF.out, ← HAL.out], ((HI.out.b.setCell (p := ⟨w.heap.size + 1 + 1, 0, none⟩) (by simp only []; omega) _).setCell (p := ⟨w.heap.size + 1 + 1 + 1, 0, none⟩) (by simp only []; omega) _).trans (belowK_b (w := w) (Nat.le_refl _) _ D _ _ (by omega) hK' rfl rfl)⟩
    simp [results, Tryd.results80, go_sem, c1, c2]
  case stop =>
    rintro D c pre W hD hpre ⟨rfl, ⟨q, x, rfl, hq, hx, bI2⟩, bO2, hB2⟩ hK
    have hf : fnd name value (allL M) = (x.1, true) := by
      obtain ⟨rest, hrest⟩ := hpre
      unfold fnd
      rw [← hrest, List.append_assoc, List.find?_append, List.find?_eq_none.2 (fun y hy => by rw [hq y hy]; simp)]
      simp [hx]
    have HF := Lib.hid hf
    clear hf hpre
    have HK := Lib.hid hK
    clear hK
    gi_wp2
    refine ⟨by simp, .inl ⟨_, _, rfl, run_takeDeferred HK.out, ?_⟩⟩
    have b1 := bI2.kept (grownBy_putObj' _ D (.deferred none)) (by intro e; cases e; omega)
    have b2 := bO2.kept (grownBy_putObj' _ D (.deferred none)) (by intro e; cases e; omega)
    have c1 := b1.cell
    have c2 := b2.cell
    refine ⟨.tuple #[.int .i64 (x.1 : Int), .bool true], ?_, by rw [HF.out], hB2.trans (belowK_b (w := w) (Nat.le_refl _) _ D _ _ (by omega) HK.out rfl rfl)⟩
    simp [results, Tryd.results80, go_sem, c1, c2]
theorem find_any (b : Nat) (name value : ByteArray) (M : List Hd) {R : Nat → Hd} {o s m : Nat} (w : World) (hr : Rg R o M) (ht : Tb w b R o M.length s m) :
    Calls Tryd.prog 80 #[.pointer (some ⟨b, 0, none⟩), .string name, .string value] w fun e w' => e = .returned (.tuple #[.int .i64 ((fnd name value (allL M)).1 : Int), .bool (fnd name value (allL M)).2]) ∧ Below w.heap.size w w' :=
  callsIn_wide.1 (find_in b name value M w hr ht)
end Go.Proofs.YtlkieeindnpidaaDoor.Tt
