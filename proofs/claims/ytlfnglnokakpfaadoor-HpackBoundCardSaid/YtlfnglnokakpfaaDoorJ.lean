/-
  CONTRACTS: a reading: header, named, take.
-/
import Derived.Test.YtlfnglnokakpfaaDoorI
import Derived.Deep.DeepCutAuto
namespace Go.Proofs.YtlfnglnokakpfaaDoor
open Go.RowKit Tt Hu Hu.Hf

def headS (n : Nat) (s : RS) : Res (Hd × RS) := match getM s.M (n : Int) with
  | none => .er 108
  | some h => .ok (h, s)
def namedS (n : Nat) (s : RS) : Res (Hd × RS) :=
  if n = 0 then match textS s with
    | .er c => .er c
    | .ok (t, s1) => match textS s1 with
      | .er c => .er c
      | .ok (v, s2) => .ok ((t, v), s2)
  else match getM s.M (n : Int) with
    | none => .er 108
    | some h => match textS s with
      | .er c => .er c
      | .ok (v, s1) => .ok ((h.1, v), s1)
def takeS (h : Hn) (s : RS) : Res (Unit × RS) := if 16384 < s.size + sizeH h.1 then .er 110 else .ok ((), { s with out := s.out ++ [h], size := s.size + sizeH h.1 })

set_option maxRecDepth 100000 in
set_option maxHeartbeats 2000000 in
theorem header_any (E : Nat → Value) (r A limit : Nat) (s : RS) (n : Nat) (hn : n ≤ 2147483647) (w : World) (h : Rg' w r A limit s) (hE : Env w E) (hX : Errs E) :
    Calls Tryd.prog 113 #[.pointer (some ⟨r, 0, none⟩), .int .i64 (n : Int)] w (Step E r A limit (fun h : Hd => hdV h) (headS n s) w) := by
  have hb0 : Below w.heap.size w (w.alloc (.cells #[.string ⟨#[]⟩, .string ⟨#[]⟩, .bool false] 77)) := (Below.refl _ w).alloc (Nat.le_refl _) _
  have HG := Lib.hid (has_get (h.has.below hb0) (n : Int) (by omega))
  have h0 := h.below hb0
  have c1 := h.c1
  have hlt := h.lt
  have HR := Lib.hid h
  have HE := Lib.hid hE
  have hne : ¬ r = w.heap.size := by omega
  have hne' : ¬ w.heap.size = r := by omega
  have hc1 := h0.c1
  clear h hE
  cases hg : getM s.M (n : Int) with
  | none =>
    have HU : Hid (headS n s = .er 108) := Lib.hid (by unfold headS; rw [hg])
    rw [hg] at HG
    simp only [Option.getD_none, Option.isSome_none] at HG
    obtain ⟨ty, p, hx⟩ := hX 108
    have HX := Lib.hid hx
    clear hX hx hg h0
    go_enter Tryd.func113, Tryd.ntmps113
    go_wp2_with fail
    refine HG.out.mono ?_
    rintro e w1 ⟨rfl, hb1⟩
    have hB1 := hb0.trans (hb1.mono (by simp))
    have hcE := (HE.out.kept hB1).c108
    rw [HX.out] at hcE
    have hgl := Hu.cell_lt hcE
    clear HG
    go_wp2_with fail
    refine (giveUp_any ty p _).mono ?_
    rintro e w' ⟨rfl, rfl⟩
    go_wp2_with fail
    exact ⟨rfl, Kr.of_below (hB1.alloc hB1.size _) hlt, by rw [HU.out]; show _ = _; rw [HX.out]⟩
  | some g =>
    have HU : Hid (headS n s = .ok (g, s)) := Lib.hid (by unfold headS; rw [hg])
    rw [hg] at HG
    simp only [Option.getD_some, Option.isSome_some] at HG
    have HP : Hid (∀ (w1 : World), Below (w.alloc (.cells #[.string ⟨#[]⟩, .string ⟨#[]⟩, .bool false] 77)).heap.size (w.alloc (.cells #[.string ⟨#[]⟩, .string ⟨#[]⟩, .bool false] 77)) w1 →
        w1.cell? ⟨w.heap.size, 0, none⟩ = some (.string ⟨#[]⟩) ∧ w1.cell? ⟨w.heap.size, 1, none⟩ = some (.string ⟨#[]⟩) ∧ w1.cell? ⟨w.heap.size, 2, none⟩ = some (.bool false) ∧ (∀ i, w1.frozen? ⟨w.heap.size, i, none⟩ = false) ∧ w.heap.size < w1.heap.size ∧ Below w.heap.size w w1) := Lib.hid (fun w1 hb1 => by
      have hz1 := hb1.size
      simp only [World.size_alloc] at hz1
      exact ⟨(hb1.cell (p := ⟨w.heap.size, 0, none⟩) (by simp)).trans (by simp), (hb1.cell (p := ⟨w.heap.size, 1, none⟩) (by simp)).trans (by simp), (hb1.cell (p := ⟨w.heap.size, 2, none⟩) (by simp)).trans (by simp),
        fun i => (hb1.frozen (p := ⟨w.heap.size, i, none⟩) (by simp)).trans (by simp), by omega, hb0.trans (hb1.mono (by simp))⟩)
    clear hX hg h0
    go_enter Tryd.func113, Tryd.ntmps113
    go_wp2_with fail
    refine HG.out.mono ?_
    rintro e w1 ⟨rfl, hb1⟩
    obtain ⟨k0, k1, k2, kf, hlt1, hB⟩ := HP.out w1 hb1
    have hn1 : ¬ w.heap.size = w1.heap.size := by omega
    have hn2 : ¬ w1.heap.size = w.heap.size := by omega
    clear HG HP hb1
    go_wp2_with fail
    refine bodyPost_ret (v := hdV g) (by simp [results, Tryd.results113, go_sem, k0, k1, k2, kf, hlt1, hn1, hn2]) rfl ?_
    have hBB0 := below_box (a := .string g.1) (b := .string g.2) (c := .bool false) hB (Nat.le_refl w.heap.size)
    have hBB := hBB0.alloc hBB0.size (.cells #[.string g.1, .string g.2, .bool false] 77)
    exact ⟨Kr.of_below hBB hlt, by rw [HU.out]; exact ⟨rfl, HR.out.below hBB⟩⟩
theorem Rg'.old {w w' : World} {r A limit : Nat} {s : RS} (h : Rg' w r A limit s) (hb : Below w.heap.size w w') : Rg' w' r A limit s := h.below hb
/-- 'size' stored. -/
theorem Rg'.setSize {w : World} {r A limit : Nat} {s : RS} (h : Rg' w r A limit s) (z : Nat) (hz : z ≤ 16384) (ho : s.out.length * 32 ≤ z) : Rg' (w.setCell ⟨r, 4, none⟩ (.int .i64 (z : Int))) r A limit { s with size := z } := by
  obtain ⟨la, ln, lc, a0, a1, a2⟩ := h.c0
  obtain ⟨v, a3, a4⟩ := h.c3
  have hne' := h.ne
  refine ⟨⟨la, ln, lc, ?_, sl_kp a1 ((Kp.refl r w).set 4 _) (fun p hp h0 => by have := a2 p hp h0; omega), a2⟩, ?_, ?_, ⟨v, ?_, a4.kp ((Kp.refl r w).set 4 _) (by omega)⟩, cell_setS _ _ _ _ _ h.c4, fun i => by rw [World.frozen?_setCell]; exact h.z i, h.has.kp ((Kp.refl r w).set 4 _) (by omega), h.ne, h.m, h.lim, h.len, hz, ho, h.glob⟩
  · rw [cell_setN _ _ _ _ _ (by omega)]; exact a0
  · rw [cell_setN _ _ _ _ _ (by omega)]; exact h.c1
  · rw [cell_setN _ _ _ _ _ (by omega)]; exact h.c2
  · rw [cell_setN _ _ _ _ _ (by omega)]; exact a3
/-- 'list' stored. -/
theorem Rg'.setOut {w w1 : World} {r A limit : Nat} {s : RS} (h : Rg' w r A limit s) (hb : Below (r + 1) w w1) (v : Value) (l : List Hn) (hv : NOwn w1 (r + 1) v l) (hl : l.length * 32 ≤ s.size) : Rg' (w1.setCell ⟨r, 3, none⟩ v) r A limit { s with out := l } := by
  obtain ⟨la, ln, lc, a0, a1, a2⟩ := h.c0
  obtain ⟨v0, a3, _⟩ := h.c3
  have hne' := h.ne
  have hbr := hb.block r (by omega)
  have hbA := hb.block A (by omega)
  have hs1 : Sl w1 la ln lc s.left := ⟨a1.len, a1.le, a1.max, a1.nil, fun i hi => by
    obtain ⟨b', o, e, hc⟩ := a1.row i hi
    have hn := a2 _ e (by have := a1.len; omega)
    exact ⟨b', o, e, (World.cell?_of_block (a := ⟨b', o + i, none⟩) (hb.block b' (by have := hn.1; simp only at this; omega))).trans hc⟩⟩
  refine ⟨⟨la, ln, lc, ?_, sl_kp hs1 ((Kp.refl r w1).set 3 _) (fun p hp h0 => by have := a2 p hp h0; omega), a2⟩, ?_, ?_, ⟨v, cell_setS _ _ _ _ _ ((World.cell?_of_block hbr).trans a3), hv.kp ((Kp.refl r w1).set 3 _) (by omega)⟩, ?_, fun i => by rw [World.frozen?_setCell]; exact (World.frozen?_of_block hbr).trans (h.z i), (h.has.blk hbA).kp ((Kp.refl r w1).set 3 _) (by omega), h.ne, h.m, h.lim, h.len, h.sz, hl, h.glob⟩
  · rw [cell_setN _ _ _ _ _ (by omega)]; exact (World.cell?_of_block hbr).trans a0
  · rw [cell_setN _ _ _ _ _ (by omega)]; exact (World.cell?_of_block hbr).trans h.c1
  · rw [cell_setN _ _ _ _ _ (by omega)]; exact (World.cell?_of_block hbr).trans h.c2
  · rw [cell_setN _ _ _ _ _ (by omega)]; exact (World.cell?_of_block hbr).trans h.c4

/-- The list's row appended to, and the list stored. -/
theorem Kr.app {r A : Nat} {w w9 : World} {v v' : Value} (hr : r < w.heap.size) (h3 : w.cell? ⟨r, 3, none⟩ = some v) (hb : Below (r + 1) w w9) (hap : ∀ x, x < w.heap.size → v.ownBlock ≠ some x → w9.heap[x]? = w.heap[x]? ∧ v'.ownBlock ≠ some x) :
    Kr r A w (w9.setCell ⟨r, 3, none⟩ v') := by
  have c3 := (hb.cell (p := ⟨r, 3, none⟩) (by simp only []; omega)).trans h3
  have e0 : lv r w = v := by unfold lv; rw [h3]; rfl
  have e1 : lv r (w9.setCell ⟨r, 3, none⟩ v') = v' := by unfold lv; rw [cell_setS _ _ _ _ _ c3]; rfl
  refine ⟨hb.os, hb.tape, hb.output, by have := hb.size; simp [World.setCell]; omega, fun k hk _ h2 hv => ?_⟩
  rw [e0] at hv
  obtain ⟨f1, f2⟩ := hap k hk hv
  exact ⟨(Below.heap_setCell _ _ _ _ h2).trans f1, by rw [e1]; exact f2⟩
set_option maxRecDepth 100000 in
set_option maxHeartbeats 4000000 in
theorem take_any (E : Nat → Value) (r A limit : Nat) (s : RS) (h : Hn) (h1 : h.1.1.size ≤ 1000000000) (h2 : h.1.2.size ≤ 1000000000) (w : World) (hr : Rg' w r A limit s) (hE : Env w E) (hX : Errs E) :
    Calls Tryd.prog 112 #[.pointer (some ⟨r, 0, none⟩), hdN h.1 h.2] w (Step E r A limit (fun _ : Unit => .tuple #[]) (takeS h s) w) := by
  obtain ⟨⟨hn, hv⟩, nv⟩ := h
  simp only at h1 h2 ⊢
  generalize hw0 : w.alloc (.cells #[.string hn, .string hv, .bool nv] 77) = w0
  have hb0 : Below w.heap.size w w0 := by rw [← hw0]; exact (Below.refl _ w).alloc (Nat.le_refl _) _
  have hz0 : w.heap.size < w0.heap.size := by rw [← hw0]; simp
  have k0 : w0.cell? ⟨w.heap.size, 0, none⟩ = some (.string hn) := by rw [← hw0]; simp
  have k1 : w0.cell? ⟨w.heap.size, 1, none⟩ = some (.string hv) := by rw [← hw0]; simp
  have k2 : w0.cell? ⟨w.heap.size, 2, none⟩ = some (.bool nv) := by rw [← hw0]; simp
  have hlt := hr.lt
  have HR0 := Lib.hid (hr.below hb0)
  have HEW := Lib.hid hE
  have HRW := Lib.hid hr
  have HB0 := Lib.hid hb0
  have q4 := HR0.out.c4
  have hz4 := HR0.out.z 4
  have hsz := hr.sz
  have hol := hr.ol
  have HW0 := Lib.hid hw0
  have HT : Hid (takeS ((hn, hv), nv) s = if 16384 < s.size + sizeH (hn, hv) then .er 110 else .ok ((), { s with out := s.out ++ [((hn, hv), nv)], size := s.size + sizeH (hn, hv) })) := Lib.hid rfl
  have hr0 : r < w0.heap.size := HR0.out.lt
  generalize hH : w.heap.size = H at k0 k1 k2 hz0 hlt
  have HHS := Lib.hid hH
  have HSZ : Hid (∀ W, Below w0.heap.size w0 W → Calls Tryd.prog 59 #[hdN (hn, hv) nv] W fun e w' => e = .returned (.int .i64 (sizeH (hn, hv) : Int)) ∧
      w'.cell? ⟨r, 4, none⟩ = some (.int .i64 (s.size : Int)) ∧ w'.frozen? ⟨r, 4, none⟩ = false ∧ Below w0.heap.size w0 w') := Lib.hid (fun W hW => by
    refine (Tt.sizeOf_any (hn, hv) nv W (by simp only []; omega) (by simp only []; omega)).mono ?_
    rintro e w' ⟨rfl, rfl⟩
    have hX := hW.alloc hW.size (.cells #[.string hn, .string hv, .bool nv] 77)
    exact ⟨rfl, (hX.cell (p := ⟨r, 4, none⟩) hr0).trans q4, (hX.frozen (p := ⟨r, 4, none⟩) hr0).trans hz4, hX⟩)
  have h32 : 32 ≤ sizeH (hn, hv) := by simp only [sizeH]; omega
  have hGb : sizeH (hn, hv) ≤ 3000000000 := by simp only [sizeH]; omega
  generalize sizeH (hn, hv) = G at HSZ HT h32 hGb
  have hwz : IntKind.i64.wrap ((s.size : Int) + (G : Int)) = (s.size : Int) + (G : Int) := IntWalk.i64_in _ (by omega)
  clear hr hE hb0 hw0 hH
  go_enter Tryd.func112, Tryd.ntmps112
  go_upto_region 1 with fail
  rw [HW0.out, HHS.out]
  go_cut [] from 4 to 12 (fun wx => ∃ wy, Below w0.heap.size w0 wy ∧ wx = wy.setCell ⟨r, 4, none⟩ (.int .i64 ((s.size : Int) + (G : Int))))
  case first =>
    go_region_law (go_simp; (with_reducible_and_instances refine Calls.mono (HSZ.out _ (by first | assumption | exact Below.refl _ _ | exact Below.drew (Below.refl _ _))) ?_); rintro e w6 ⟨rfl, hw1, hw2, hw3⟩; go_simp)
    all_goals (go_wp2_with fail; go_meet)
    all_goals exact ⟨_, (by first | exact hw3 | exact Below.drew hw3), rfl⟩
  case rest =>
    obtain ⟨wy, hby, hwc⟩ := hcut
    have hsum : (s.size : Int) + (G : Int) = ((s.size + G : Nat) : Int) := by simp
    rw [hsum] at hwc
    clear hsum hwz
    have c4y := (hby.cell (p := ⟨r, 4, none⟩) hr0).trans q4
    have hKc : Hid (Kr r A w wc) := Lib.hid (by
      rw [hwc]
      exact ((Kr.of_below HB0.out (by rw [HHS.out]; exact hlt)).trans (Kr.of_below hby hr0)).trans (Kr.set wy 4 _ (by omega)))
    have c4c : wc.cell? ⟨r, 4, none⟩ = some (.int .i64 ((s.size + G : Nat) : Int)) := by rw [hwc]; exact cell_setS _ _ _ _ _ c4y
    have hzy := hby.size
    have HCE := Lib.hid ((HEW.out.kq HR0.out.glob HR0.out.ne HR0.out.ne (hKc.out.kq HRW.out)).c110)
    have hbH : wc.heap[H]? = w0.heap[H]? := by rw [hwc]; exact (((Kp.refl r wy).set 4 _).block H (by omega) (by omega)).trans (hby.block H hz0)
    have kc0 := (World.cell?_of_block (a := ⟨H, 0, none⟩) hbH).trans k0
    have kc1 := (World.cell?_of_block (a := ⟨H, 1, none⟩) hbH).trans k1
    have kc2 := (World.cell?_of_block (a := ⟨H, 2, none⟩) hbH).trans k2
    have hzc : wy.heap.size ≤ wc.heap.size := by rw [hwc]; simp [World.setCell]
    by_cases hG : 16384 < s.size + G
    · obtain ⟨ty, p, hx⟩ := hX 110
      have hcE : wc.cell? ⟨5, 0, none⟩ = some (E 110) := HCE.out
      rw [hx] at hcE
      have HX := Lib.hid hx
      have hdi : decide ((16384 : Int) < ((s.size + G : Nat) : Int)) = true := by simp; omega
      have HU : Hid (takeS ((hn, hv), nv) s = .er 110) := Lib.hid (by rw [HT.out, if_pos hG])
      clear hX hx HT HSZ q4 hz4 hwc hby c4y
      go_wp2_with fail
      refine (giveUp_any ty p _).mono ?_
      rintro e w' ⟨rfl, rfl⟩
      go_wp2_with fail
      exact ⟨rfl, hKc.out, by rw [HU.out]; show _ = _; rw [HX.out]⟩
    · have HU : Hid (takeS ((hn, hv), nv) s = .ok ((), { s with out := s.out ++ [((hn, hv), nv)], size := s.size + G })) := Lib.hid (by rw [HT.out, if_neg hG])
      have HRc : Hid (Rg' wc r A limit { s with size := s.size + G }) := Lib.hid (by rw [hwc]; exact (HR0.out.below hby).setSize _ (by omega) (by omega))
      have hdi : decide ((16384 : Int) < ((s.size + G : Nat) : Int)) = false := by simp; omega
      obtain ⟨v, c3, hown⟩ := HRc.out.c3
      obtain ⟨ad, cp, hv', hNs⟩ := hown.ns
      subst hv'
      have hzz := fun i => HRc.out.z i
      have HOW := Lib.hid hown
      have hrc : r < wc.heap.size := HRc.out.lt
      clear hX HT HSZ q4 hz4 hwc hby c4y hNs hown
      go_upto_region 4 with fail
      go_region_law (first | (refine step_append_n rfl _ _ rfl _ s.out [((hn, hv), nv)] rfl (r + 1) (HOW.out.kept (((Below.refl _ _).alloc (Nat.le_refl _) _).drew)) _ 1 1 rfl ((ns_new1 _ _).kept (Below.drew (Below.refl _ _))) (by first | (simp; done) | (simp; omega)) (by first | (simp; done) | (simp; omega)) ?_; intro w9 a9 N9 c9 hN9 hown9 hb9 hap9; (have hB9 : Below (r + 1) wc w9 := ((((Below.refl wc.heap.size wc).alloc (Nat.le_refl _) _).drew).mono (by omega)).trans hb9); have hx9 := (hB9.cell (p := ⟨r, 3, none⟩) (by simp only []; omega)).trans c3; have hz9 := (hB9.frozen (p := ⟨r, 3, none⟩) (by simp only []; omega)).trans (hzz 3)))
      all_goals go_wp2
      all_goals go_end0
      all_goals refine ⟨hKc.out.trans (Kr.app hrc c3 hB9 (fun x hx hv => by obtain ⟨f1, f2⟩ := hap9 x (by simp; omega) hv; exact ⟨f1.trans (Below.heap_alloc _ _ _ hx), f2⟩)), ?_⟩
      all_goals rw [HU.out]
      all_goals exact ⟨rfl, HRc.out.setOut hB9 _ _ (by have hh := hN9.out; rw [hh] at hown9; rw [hh]; exact hown9) (by simp; omega)⟩
end Go.Proofs.YtlfnglnokakpfaaDoor
