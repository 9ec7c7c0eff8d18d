/-
  CONTRACTS: a reading: named.
-/
import Derived.Test.YtlfnglnokakpfaaDoorJ
namespace Go.Proofs.YtlfnglnokakpfaaDoor
open Go.RowKit Tt Hu Hu.Hf

/-- A box of one header at block x. -/
structure Bx (w : World) (x : Nat) (a b c : Value) : Prop where
  c0 : w.cell? ⟨x, 0, none⟩ = some a
  c1 : w.cell? ⟨x, 1, none⟩ = some b
  c2 : w.cell? ⟨x, 2, none⟩ = some c
  z : ∀ i, w.frozen? ⟨x, i, none⟩ = false
theorem Bx.keep {w w' : World} {x : Nat} {a b c : Value} (h : Bx w x a b c) (hb : w'.heap[x]? = w.heap[x]?) : Bx w' x a b c :=
  ⟨(World.cell?_of_block (a := ⟨x, 0, none⟩) hb).trans h.c0, (World.cell?_of_block (a := ⟨x, 1, none⟩) hb).trans h.c1, (World.cell?_of_block (a := ⟨x, 2, none⟩) hb).trans h.c2, fun i => (World.frozen?_of_block (a := ⟨x, i, none⟩) hb).trans (h.z i)⟩
theorem Bx.other {w : World} {x y i : Nat} {a b c v : Value} (h : Bx w x a b c) (hne : x ≠ y) : Bx (w.setCell ⟨y, i, none⟩ v) x a b c := h.keep (Below.heap_setCell _ _ _ _ hne)
theorem Bx.set0 {w : World} {x : Nat} {a b c : Value} (h : Bx w x a b c) (v : Value) : Bx (w.setCell ⟨x, 0, none⟩ v) x v b c :=
  ⟨cell_setS _ _ _ _ _ h.c0, by rw [cell_setN _ _ _ _ _ (by omega)]; exact h.c1, by rw [cell_setN _ _ _ _ _ (by omega)]; exact h.c2, fun i => by rw [World.frozen?_setCell]; exact h.z i⟩
theorem Bx.set1 {w : World} {x : Nat} {a b c : Value} (h : Bx w x a b c) (v : Value) : Bx (w.setCell ⟨x, 1, none⟩ v) x a v c :=
  ⟨by rw [cell_setN _ _ _ _ _ (by omega)]; exact h.c0, cell_setS _ _ _ _ _ h.c1, by rw [cell_setN _ _ _ _ _ (by omega)]; exact h.c2, fun i => by rw [World.frozen?_setCell]; exact h.z i⟩
theorem Bx.set2 {w : World} {x : Nat} {a b c : Value} (h : Bx w x a b c) (v : Value) : Bx (w.setCell ⟨x, 2, none⟩ v) x a b v :=
  ⟨by rw [cell_setN _ _ _ _ _ (by omega)]; exact h.c0, by rw [cell_setN _ _ _ _ _ (by omega)]; exact h.c1, cell_setS _ _ _ _ _ h.c2, fun i => by rw [World.frozen?_setCell]; exact h.z i⟩
theorem Bx.new (w : World) (a b c : Value) (t : TypeId) : Bx (w.alloc (.cells #[a, b, c] t)) w.heap.size a b c := ⟨by simp, by simp, by simp, fun i => by simp⟩
theorem Bx.lt {w : World} {x : Nat} {a b c : Value} (h : Bx w x a b c) : x < w.heap.size := Hu.cell_lt h.c0
theorem Bx.alloc {w : World} {x : Nat} {a b c : Value} (h : Bx w x a b c) (o : Obj) : Bx (w.alloc o) x a b c := h.keep (Below.heap_alloc _ _ _ h.lt)
theorem NOwn.blk {w w' : World} {B : Nat} {v : Value} {l : List Hn} (h : NOwn w B v l) (hb : ∀ g, v.ownBlock = some g → w'.heap[g]? = w.heap[g]?) : NOwn w' B v l := by
  obtain ⟨h1, h2⟩ := h
  refine ⟨h1, ?_⟩
  rcases h2 with h2 | ⟨g, cap, cur, hv, hg, hh, q⟩
  · exact Or.inl h2
  · refine Or.inr ⟨g, cap, cur, hv, hg, ?_, q⟩
    rw [hb g (by rw [hv]; rfl)]
    exact hh
/-- What is stored above the reading, but not in its list's row. -/
theorem Rg'.setBox {w : World} {r A limit : Nat} {s : RS} (h : Rg' w r A limit s) {x : Nat} (hx : r < x) (hv : (lv r w).ownBlock ≠ some x) (i : Nat) (v : Value) : Rg' (w.setCell ⟨x, i, none⟩ v) r A limit s := by
  obtain ⟨la, ln, lc, a0, a1, a2⟩ := h.c0
  obtain ⟨u, a3, a4⟩ := h.c3
  have hA := h.ne
  have hb : ∀ k, k ≠ x → (w.setCell ⟨x, i, none⟩ v).heap[k]? = w.heap[k]? := fun k hk => Below.heap_setCell _ _ _ _ hk
  have hr := hb r (by omega)
  have hlu : lv r w = u := by unfold lv; rw [a3]; rfl
  rw [hlu] at hv
  exact ⟨⟨la, ln, lc, (World.cell?_of_block (a := ⟨r, 0, none⟩) hr).trans a0, sl_kp a1 ((Kp.refl x w).set i v) (fun p hp h0 => by have := a2 p hp h0; omega), a2⟩, (World.cell?_of_block (a := ⟨r, 1, none⟩) hr).trans h.c1, (World.cell?_of_block (a := ⟨r, 2, none⟩) hr).trans h.c2,
    ⟨u, (World.cell?_of_block (a := ⟨r, 3, none⟩) hr).trans a3, a4.blk (fun g hg => hb g (fun e => hv (by rw [hg, e])))⟩, (World.cell?_of_block (a := ⟨r, 4, none⟩) hr).trans h.c4, fun j => (World.frozen?_of_block (a := ⟨r, j, none⟩) hr).trans (h.z j), h.has.blk (hb A (by omega)), h.ne, h.m, h.lim, h.len, h.sz, h.ol, h.glob⟩
theorem lv_setBox {w : World} {r x i : Nat} {v : Value} (hx : r ≠ x) : lv r (w.setCell ⟨x, i, none⟩ v) = lv r w := by
  unfold lv; rw [World.cell?_of_block (a := ⟨r, 3, none⟩) (Below.heap_setCell _ _ _ _ hx)]
theorem Kr.setNew {r A : Nat} {w w' : World} (h : Kr r A w w') {x : Nat} (hx : w.heap.size ≤ x) (hr : r < w.heap.size) (i : Nat) (v : Value) : Kr r A w (w'.setCell ⟨x, i, none⟩ v) :=
  ⟨h.os, h.tape, h.output, by have := h.size; simp [World.setCell]; omega, fun k hk h1 h2 hv => by
    obtain ⟨e1, e2⟩ := h.block k hk h1 h2 hv
    exact ⟨(Below.heap_setCell _ _ _ _ (show k ≠ x by omega)).trans e1, by rw [lv_setBox (by omega)]; exact e2⟩⟩
theorem lv_alloc {w : World} {r : Nat} (hr : r < w.heap.size) (o : Obj) : lv r (w.alloc o) = lv r w := by
  unfold lv; rw [World.cell?_of_block (a := ⟨r, 3, none⟩) (Below.heap_alloc _ _ _ hr)]

set_option maxRecDepth 100000 in
set_option maxHeartbeats 4000000 in
theorem named_any (E : Nat → Value) (r A limit : Nat) (s : RS) (n : Nat) (hn : n ≤ 2147483647) (w : World) (h : Rg' w r A limit s) (hE : Env w E) (hX : Errs E) :
    Calls Tryd.prog 114 #[.pointer (some ⟨r, 0, none⟩), .int .i64 (n : Int)] w (Step E r A limit (fun h : Hd => hdV h) (namedS n s) w) := by
  have hlt := h.lt
  have hb2 : Below w.heap.size w ((w.alloc (.cells #[.string ⟨#[]⟩, .string ⟨#[]⟩, .bool false] 77)).alloc (.cells #[.string ⟨#[]⟩, .string ⟨#[]⟩, .bool false] 77)) := ((Below.refl _ w).alloc (Nat.le_refl _) _).alloc (by simp) _
  have B0 := (Bx.new w (.string ⟨#[]⟩) (.string ⟨#[]⟩) (.bool false) 77).alloc (.cells #[.string ⟨#[]⟩, .string ⟨#[]⟩, .bool false] 77)
  have B1 := Bx.new (w.alloc (.cells #[.string ⟨#[]⟩, .string ⟨#[]⟩, .bool false] 77)) (.string ⟨#[]⟩) (.string ⟨#[]⟩) (.bool false) 77
  simp only [World.size_alloc] at B1
  generalize hw2 : (w.alloc (.cells #[.string ⟨#[]⟩, .string ⟨#[]⟩, .bool false] 77)).alloc (.cells #[.string ⟨#[]⟩, .string ⟨#[]⟩, .bool false] 77) = w2 at hb2 B0 B1
  have HR2 := Lib.hid (h.below hb2)
  have HE2 := Lib.hid (hE.kept hb2)
  have HW2 := Lib.hid hw2
  have hz2 : w2.heap.size = w.heap.size + 2 := by rw [← hw2]; simp
  have l0 : (lv r w2).ownBlock ≠ some w.heap.size := by
    have e : lv r w2 = lv r w := by unfold lv; rw [hb2.cell (p := ⟨r, 3, none⟩) hlt]
    rw [e]; exact h.own_ne (Or.inr (Nat.le_refl _))
  have l1 : (lv r w2).ownBlock ≠ some (w.heap.size + 1) := by
    have e : lv r w2 = lv r w := by unfold lv; rw [hb2.cell (p := ⟨r, 3, none⟩) hlt]
    rw [e]; exact h.own_ne (Or.inr (Nat.le_succ _))
  have HK2 : Hid (Kr r A w w2) := Lib.hid (Kr.of_below hb2 hlt)
  have hAr := h.ne
  generalize hH : w.heap.size = H at B0 B1 hz2 l0 l1 hlt
  have HHS := Lib.hid hH
  clear h hE hb2 hw2 hH
  by_cases hn0 : n = 0
  · subst hn0
    have HT := Lib.hid (rtext_any E r A limit s w2 HR2.out HE2.out hX)
    have HNS : Hid (namedS 0 s = match textS s with
      | .er c => .er c
      | .ok (t, s1) => match textS s1 with
        | .er c => .er c
        | .ok (v, s2) => .ok ((t, v), s2)) := Lib.hid (by unfold namedS; rw [if_pos rfl]; rfl)
    cases ht : textS s with
    | er c =>
      rw [ht] at HT HNS
      go_enter Tryd.func114, Tryd.ntmps114
      go_wp2_with fail
      rw [HW2.out]
      refine HT.out.mono ?_
      rintro e w3 ⟨hk, rfl⟩
      go_wp2_with fail
      exact ⟨rfl, HK2.out.trans hk, by rw [HNS.out]; rfl⟩
    | ok q =>
      obtain ⟨t, s1⟩ := q
      rw [ht] at HT HNS
      simp only at HNS
      clear ht
      have HV := Lib.hid (fun W (hr : Rg' W r A limit s1) (he : Env W E) => rtext_any E r A limit s1 W hr he hX)
      clear hX
      go_enter Tryd.func114, Tryd.ntmps114
      go_wp2_with fail
      rw [HW2.out]
      simp only [HHS.out]
      refine HT.out.mono ?_
      rintro e w3 ⟨hk3, rfl, hr3⟩
      obtain ⟨y0, m0⟩ := hk3.box (k := H) (by omega) (by omega) (by omega) l0
      obtain ⟨y1, m1⟩ := hk3.box (k := H + 1) (by omega) (by omega) (by omega) l1
      have C0 := B0.keep y0
      have C1 := B1.keep y1
      have he3 := HE2.out.kq HR2.out.glob HR2.out.ne HR2.out.ne (hk3.kq HR2.out)
      have D0 : Bx (w3.setCell ⟨H + 1, 0, none⟩ (.string t)) H _ _ _ := C0.other (by omega)
      have D1 := C1.set0 (.string t)
      have HR4 := Lib.hid (hr3.setBox (x := H + 1) (by omega) m1 0 (.string t))
      have HE4 : Hid (Env (w3.setCell ⟨H + 1, 0, none⟩ (.string t)) E) := Lib.hid (he3.of_blocks fun g hg => Below.heap_setCell _ _ _ _ (show g ≠ H + 1 by have := HR2.out.glob g hg; omega))
      have HK4 := Lib.hid ((HK2.out.trans hk3).setNew (x := H + 1) (by rw [HHS.out]; omega) (by rw [HHS.out]; exact hlt) 0 (.string t))
      have HV4 := Lib.hid (HV.out _ HR4.out HE4.out)
      have n0 : (lv r (w3.setCell ⟨H + 1, 0, none⟩ (.string t))).ownBlock ≠ some H := by rw [lv_setBox (by omega)]; exact m0
      have n1 : (lv r (w3.setCell ⟨H + 1, 0, none⟩ (.string t))).ownBlock ≠ some (H + 1) := by rw [lv_setBox (by omega)]; exact m1
      have p1 := C1.c0
      have pz := fun i => C1.z i
      clear HT HV B0 B1 y0 y1 hk3 hr3 he3 l0 l1 m0 m1 C0 C1
      go_wp2_with fail
      generalize hw4 : w3.setCell ⟨H + 1, 0, none⟩ (.string t) = w4 at D0 D1 HR4 HE4 HK4 HV4 n0 n1
      have hz4 : H + 1 < w4.heap.size := D1.lt
      have hr4l := HR4.out.lt
      have HTS : Hid (∀ s2, Rg' w4 r A limit s2 → True) := Lib.hid (fun _ _ => trivial)
      clear HTS hw4 p1 pz
      cases ht1 : textS s1 with
      | er c =>
        rw [ht1] at HV4 HNS
        refine HV4.out.mono ?_
        rintro e w5 ⟨hk5, rfl⟩
        go_wp2_with fail
        exact ⟨rfl, HK4.out.trans hk5, by rw [HNS.out]; rfl⟩
      | ok q =>
        obtain ⟨v, s2⟩ := q
        rw [ht1] at HV4 HNS
        simp only at HNS
        clear ht1
        refine HV4.out.mono ?_
        rintro e w5 ⟨hk5, rfl, hr5⟩
        obtain ⟨y0, m0⟩ := hk5.box (k := H) (by omega) (by omega) (by omega) n0
        obtain ⟨y1, m1⟩ := hk5.box (k := H + 1) (by omega) (by omega) (by omega) n1
        have F0 := D0.keep y0
        have F1 := D1.keep y1
        have a0 := F0.c0
        have a1 := F0.c1
        have a2 := F0.c2
        have az := fun i => F0.z i
        have b0 := F1.c0
        have b1 := F1.c1
        have b2 := F1.c2
        have bz := fun i => F1.z i
        have hz5 : H + 1 < w5.heap.size := F1.lt
        have hn1 : ¬ H = H + 1 := by omega
        have hn2 : ¬ H + 1 = H := by omega
        have hRF : Hid (Rg' (((((w5.setCell ⟨H + 1, 1, none⟩ (.string v)).setCell ⟨H, 0, none⟩ (.string t)).setCell ⟨H, 1, none⟩ (.string v)).setCell ⟨H, 2, none⟩ (.bool false))) r A limit s2) := Lib.hid (by
          refine (((hr5.setBox (x := H + 1) (by omega) m1 1 _).setBox (x := H) (by omega) ?_ 0 _).setBox (x := H) (by omega) ?_ 1 _).setBox (x := H) (by omega) ?_ 2 _
          · rw [lv_setBox (by omega)]; exact m0
          · rw [lv_setBox (by omega), lv_setBox (by omega)]; exact m0
          · rw [lv_setBox (by omega), lv_setBox (by omega), lv_setBox (by omega)]; exact m0)
        have hKF : Hid (Kr r A w (((((w5.setCell ⟨H + 1, 1, none⟩ (.string v)).setCell ⟨H, 0, none⟩ (.string t)).setCell ⟨H, 1, none⟩ (.string v)).setCell ⟨H, 2, none⟩ (.bool false)))) := Lib.hid (by
          have hwl : r < w.heap.size := by rw [HHS.out]; exact hlt
          have hwh : w.heap.size ≤ H := by rw [HHS.out]; exact Nat.le_refl _
          exact ((((HK4.out.trans hk5).setNew (x := H + 1) (by omega) hwl 1 _).setNew (x := H) hwh hwl 0 _).setNew (x := H) hwh hwl 1 _).setNew (x := H) hwh hwl 2 _)
        clear HV4 HK4 HR4 HE4 D0 D1 y0 y1 hk5 hr5 F0 F1 m0 m1 n0 n1
        go_wp2_with fail
        refine bodyPost_ret (v := hdV (t, v)) (by simp [results, Tryd.results114, go_sem, a0, a1, a2, az, b0, b1, b2, bz, hz5, hn1, hn2]) rfl ?_
        exact ⟨hKF.out, by rw [HNS.out]; exact ⟨rfl, hRF.out⟩⟩
  · have hnz : ((n : Int) == 0) = false := by rw [beq_eq_false_iff_ne]; omega
    have HT := Lib.hid (header_any E r A limit s n hn w2 HR2.out HE2.out hX)
    have HNS : Hid (namedS n s = match headS n s with
      | .er c => .er c
      | .ok (g, s1) => match textS s1 with
        | .er c => .er c
        | .ok (v, s2) => .ok ((g.1, v), s2)) := Lib.hid (by unfold namedS headS; rw [if_neg hn0]; cases getM s.M (n : Int) <;> rfl)
    clear hn0
    cases ht : headS n s with
    | er c =>
      rw [ht] at HT HNS
      go_enter Tryd.func114, Tryd.ntmps114
      go_wp2_with fail
      rw [HW2.out]
      refine HT.out.mono ?_
      rintro e w3 ⟨hk, rfl⟩
      go_wp2_with fail
      exact ⟨rfl, HK2.out.trans hk, by rw [HNS.out]; rfl⟩
    | ok q =>
      obtain ⟨⟨t, gv⟩, s1⟩ := q
      rw [ht] at HT HNS
      simp only at HNS
      clear ht
      have HV := Lib.hid (fun W (hr : Rg' W r A limit s1) (he : Env W E) => rtext_any E r A limit s1 W hr he hX)
      clear hX
      go_enter Tryd.func114, Tryd.ntmps114
      go_wp2_with fail
      rw [HW2.out]
      simp only [HHS.out]
      refine HT.out.mono ?_
      rintro e w3 ⟨hk3, rfl, hr3⟩
      obtain ⟨y0, m0⟩ := hk3.box (k := H) (by omega) (by omega) (by omega) l0
      obtain ⟨y1, m1⟩ := hk3.box (k := H + 1) (by omega) (by omega) (by omega) l1
      have C0 := B0.keep y0
      have C1 := B1.keep y1
      have he3 := HE2.out.kq HR2.out.glob HR2.out.ne HR2.out.ne (hk3.kq HR2.out)
      have D0 : Bx (w3.setCell ⟨H + 1, 0, none⟩ (.string t)) H _ _ _ := C0.other (by omega)
      have D1 := C1.set0 (.string t)
      have HR4 := Lib.hid (hr3.setBox (x := H + 1) (by omega) m1 0 (.string t))
      have HE4 : Hid (Env (w3.setCell ⟨H + 1, 0, none⟩ (.string t)) E) := Lib.hid (he3.of_blocks fun g hg => Below.heap_setCell _ _ _ _ (show g ≠ H + 1 by have := HR2.out.glob g hg; omega))
      have HK4 := Lib.hid ((HK2.out.trans hk3).setNew (x := H + 1) (by rw [HHS.out]; omega) (by rw [HHS.out]; exact hlt) 0 (.string t))
      have HV4 := Lib.hid (HV.out _ HR4.out HE4.out)
      have n0 : (lv r (w3.setCell ⟨H + 1, 0, none⟩ (.string t))).ownBlock ≠ some H := by rw [lv_setBox (by omega)]; exact m0
      have n1 : (lv r (w3.setCell ⟨H + 1, 0, none⟩ (.string t))).ownBlock ≠ some (H + 1) := by rw [lv_setBox (by omega)]; exact m1
      have p1 := C1.c0
      have pz := fun i => C1.z i
      have hfl : ∀ W, (Instr.field 77 (hdV (t, gv)) 0).run Tryd.prog W = .ok (.string t) W := fun W => by kernel_rfl
      clear HT HV B0 B1 y0 y1 hk3 hr3 he3 l0 l1 m0 m1 C0 C1
      go_wp2_with fail
      clear hfl
      generalize hw4 : w3.setCell ⟨H + 1, 0, none⟩ (.string t) = w4 at D0 D1 HR4 HE4 HK4 HV4 n0 n1
      have hz4 : H + 1 < w4.heap.size := D1.lt
      have hr4l := HR4.out.lt
      have HTS : Hid (∀ s2, Rg' w4 r A limit s2 → True) := Lib.hid (fun _ _ => trivial)
      clear HTS hw4 p1 pz
      cases ht1 : textS s1 with
      | er c =>
        rw [ht1] at HV4 HNS
        refine HV4.out.mono ?_
        rintro e w5 ⟨hk5, rfl⟩
        go_wp2_with fail
        exact ⟨rfl, HK4.out.trans hk5, by rw [HNS.out]; rfl⟩
      | ok q =>
        obtain ⟨v, s2⟩ := q
        rw [ht1] at HV4 HNS
        simp only at HNS
        clear ht1
        refine HV4.out.mono ?_
        rintro e w5 ⟨hk5, rfl, hr5⟩
        obtain ⟨y0, m0⟩ := hk5.box (k := H) (by omega) (by omega) (by omega) n0
        obtain ⟨y1, m1⟩ := hk5.box (k := H + 1) (by omega) (by omega) (by omega) n1
        have F0 := D0.keep y0
        have F1 := D1.keep y1
        have a0 := F0.c0
        have a1 := F0.c1
        have a2 := F0.c2
        have az := fun i => F0.z i
        have b0 := F1.c0
        have b1 := F1.c1
        have b2 := F1.c2
        have bz := fun i => F1.z i
        have hz5 : H + 1 < w5.heap.size := F1.lt
        have hn1 : ¬ H = H + 1 := by omega
        have hn2 : ¬ H + 1 = H := by omega
        have hRF : Hid (Rg' (((((w5.setCell ⟨H + 1, 1, none⟩ (.string v)).setCell ⟨H, 0, none⟩ (.string t)).setCell ⟨H, 1, none⟩ (.string v)).setCell ⟨H, 2, none⟩ (.bool false))) r A limit s2) := Lib.hid (by
          refine (((hr5.setBox (x := H + 1) (by omega) m1 1 _).setBox (x := H) (by omega) ?_ 0 _).setBox (x := H) (by omega) ?_ 1 _).setBox (x := H) (by omega) ?_ 2 _
          · rw [lv_setBox (by omega)]; exact m0
          · rw [lv_setBox (by omega), lv_setBox (by omega)]; exact m0
          · rw [lv_setBox (by omega), lv_setBox (by omega), lv_setBox (by omega)]; exact m0)
        have hKF : Hid (Kr r A w (((((w5.setCell ⟨H + 1, 1, none⟩ (.string v)).setCell ⟨H, 0, none⟩ (.string t)).setCell ⟨H, 1, none⟩ (.string v)).setCell ⟨H, 2, none⟩ (.bool false)))) := Lib.hid (by
          have hwl : r < w.heap.size := by rw [HHS.out]; exact hlt
          have hwh : w.heap.size ≤ H := by rw [HHS.out]; exact Nat.le_refl _
          exact ((((HK4.out.trans hk5).setNew (x := H + 1) (by omega) hwl 1 _).setNew (x := H) hwh hwl 0 _).setNew (x := H) hwh hwl 1 _).setNew (x := H) hwh hwl 2 _)
        clear HV4 HK4 HR4 HE4 D0 D1 y0 y1 hk5 hr5 F0 F1 m0 m1 n0 n1
        go_wp2_with fail
        refine bodyPost_ret (v := hdV (t, v)) (by simp [results, Tryd.results114, go_sem, a0, a1, a2, az, b0, b1, b2, bz, hz5, hn1, hn2]) rfl ?_
        exact ⟨hKF.out, by rw [HNS.out]; exact ⟨rfl, hRF.out⟩⟩
end Go.Proofs.YtlfnglnokakpfaaDoor
