/-
  THE DOCUMENT's TABLE: New, Add, Resize.
-/
import Derived.Test.YtbdpeioafelolaaDoorB
import Derived.Deep.RegionLaw
import Derived.Deep.AppendLies
namespace Go.Proofs.YtbdpeioafelolaaDoor
open Go.RowKit

/-- The cells that are appended. -/
theorem hs_news {w : World} {p : Addr} {n c : Nat} {m : List Hd} (hsl : Hs w (some p) n c m) : ∀ j u, (hcells m)[j]? = some u → w.cell? (p.add j) = some u := by
  intro j u hj
  have hj3 := hcells_inv hj
  obtain ⟨b, o', e, h0, h1, h2⟩ := hsl.row (j / 3) hj3
  obtain ⟨g0, g1, g2⟩ := hcells_get m (j / 3) hj3
  cases e
  rw [Addr.add_lit]
  rcases (by omega : j = j / 3 * 3 ∨ j = j / 3 * 3 + 1 ∨ j = j / 3 * 3 + 2) with e | e | e
  · rw [e] at hj
    rw [g0] at hj
    obtain rfl := Option.some.inj hj
    rw [show o' + j = o' + j / 3 * 3 by omega]; exact h0
  · rw [e] at hj
    rw [g1] at hj
    obtain rfl := Option.some.inj hj
    rw [show o' + j = o' + j / 3 * 3 + 1 by omega]; exact h1
  · rw [e] at hj
    rw [g2] at hj
    obtain rfl := Option.some.inj hj
    rw [show o' + j = o' + j / 3 * 3 + 2 by omega]; exact h2
/-- 'append(s, x...)' as a step of a region that draws its order. -/
theorem step_append_h {w : World} {ops : Array Oper} {o : Oper} {a : Act} {K : Act → World → Prop} {Q : Exit → Act → World → Prop} {E : Prop}
    (hgd : o.guard = none) (s x : Operand) (ho : o.op = .call { callee := .builtin .append, args := #[s, x], argTypes := #[49, 49] })
    (v : Value) (l m : List Hd) (hs : a.eval s = v) (B : Nat) (hown : HOwn w B v l) (ad : Option Addr) (n c : Nat) (hx : a.eval x = .slice ad n c) (hsl : Hs w ad n c m)
    (hbytes : l.length + n ≤ 1000000) (hbase : B ≤ w.heap.size)
    (hK : ∀ w' ad' N' c', Hid (N' = (l ++ m).length) → HOwn w' B (.slice ad' N' c') (l ++ m) → Below B w w' → K (a.put o.dst (.slice ad' N' c')) w') :
    if Region.wanted o (yielded ops a.tmps) = true then Oper.wp Tryd.prog o a w K Q else E := by
  have hw : Region.wanted o (yielded ops a.tmps) = true := by simp [Region.wanted, hgd]
  rw [if_pos hw]
  obtain ⟨i0, hi, hz0, hz1, hz2⟩ := info_parts infoH
  have hlen := hsl.len
  cases ad with
  | none =>
    obtain rfl := hsl.nil rfl
    have hn : n = 0 := by have := hsl.le; omega
    subst hn
    obtain rfl : m = [] := List.length_eq_zero_iff.1 hlen
    obtain ⟨ad', c', rfl, _⟩ := hown.hs
    have hrun := run_append_owned_none (P := Tryd.prog) (w := w) B 49 o.type _ i0 3 Tryd.underlying49 hi _ l.length _ hown
    unfold Oper.wp
    simp [execOp, ho, resolve, invoke, builtin, hs, hx, hrun, Result.andThen]
    exact hK w ad' l.length c' (by simp [Hid]) (by simpa using hown) (Below.refl _ _)
  | some p =>
    obtain ⟨v', w', hr, h2, h3, _, _⟩ := run_append_own_at (P := Tryd.prog) w B 49 o.type _ i0 (.agg #[.string ⟨#[]⟩, .string ⟨#[]⟩, .bool false]) 3 40 Tryd.underlying49 hi hz0 hz1 hz2 rfl (by decide) v l.length (hcells l) hown p n c (hcells m)
      (by rw [hcells_len]; omega) (hs_news hsl) (hcells_one m) (by unfold maxLen; omega) (by omega) hbase
    have h1' : HOwn w' B v' (l ++ m) := by
      unfold HOwn
      rw [List.length_append, hcells_app, hlen]; exact h2
    obtain ⟨ad', c', rfl, _⟩ := h1'.hs
    unfold Oper.wp
    simp [execOp, ho, resolve, invoke, builtin, hs, hx, hr, Result.andThen]
    have hfin := hK w' ad' (l ++ m).length c' (Lib.hid rfl) h1' (hown.below h3 hbase)
    rw [List.length_append] at hfin
    exact hfin

/-- A new block of one header is the call's own. -/
theorem hown_new1 (w : World) (B : Nat) (h : Hd) (hB : B ≤ w.heap.size) : HOwn (w.alloc (.cells #[.string h.1, .string h.2, .bool false] 34)) B (.slice (some ⟨w.heap.size, 0, none⟩) 1 1) [h] :=
  ⟨rfl, Or.inr ⟨w.heap.size, 1, #[.string h.1, .string h.2, .bool false], rfl, hB, (by first | (simp; done) | (simp [World.alloc_eq]; done) | (show (w.heap.push _)[w.heap.size]? = _; simp)), Nat.le_refl _, by unfold maxLen; omega, rfl, rfl⟩⟩
set_option maxRecDepth 100000 in
theorem dnew_any (m : Nat) (w : World) (hm : m ≤ 4096) : Calls Tryd.prog 12 #[.int .i64 (m : Int)] w fun e w' => e = .returned (.pointer (some ⟨w.heap.size, 0, none⟩)) ∧ Dt w' w.heap.size [] m ∧ Below w.heap.size w w' := by
  go_enter Tryd.func12, Tryd.ntmps12
  go_wp2
  go_ret
  refine ⟨rfl, ⟨⟨none, 0, by simp, HOwn.nil _ _⟩, by simp, fun i => by simp⟩, (Below.refl _ w).alloc (Nat.le_refl _) _⟩
set_option maxRecDepth 100000 in
theorem dresize_any (x m n : Nat) (M : List Hd) (w : World) (h : Dt w x M.reverse m) (hM : total M ≤ 4096) (hm : n ≤ 4096) :
    Calls Tryd.prog 16 #[.pointer (some ⟨x, 0, none⟩), .int .i64 (n : Int)] w fun e w' => e = .returned (.tuple #[]) ∧ Dt w' x (shr n M).reverse n ∧ Kp x w w' := by
  have q1 := h.most
  have hz := h.z 1
  have hl := h.lt
  have h' : Dt (w.setCell ⟨x, 1, none⟩ (.int .i64 (n : Int))) x M.reverse n := by
    obtain ⟨a, c, h1, h2⟩ := h.row
    exact ⟨⟨a, c, by rw [cell_setN w x 1 0 _ (by omega)]; exact h1, h2.kp ((Kp.refl x w).set 1 _) (by omega)⟩, cell_setS w x 1 _ _ q1, fun i => by rw [World.frozen?_setCell]; exact h.z i⟩
  have HR := Lib.hid (room_any x n 0 M _ h' hM hm (by omega))
  clear h'
  go_enter Tryd.func16, Tryd.ntmps16
  go_wp2_with fail
  refine HR.out.mono ?_
  rintro e w' ⟨rfl, hd, hk⟩
  go_wp2
  go_end0
  exact ⟨rfl, hd, ((Kp.refl x w).set 1 _).trans hk⟩
set_option maxRecDepth 100000 in
set_option maxHeartbeats 4000000 in
theorem dadd_any (x m : Nat) (M : List Hd) (h : Hd) (c : Bool) (w : World) (hd : Dt w x M.reverse m) (hM : total M ≤ m) (hm : m ≤ 4096) (h1 : h.1.size ≤ 140737488351232) (h2 : h.2.size ≤ 140737488351232) :
    Calls Tryd.prog 14 #[.pointer (some ⟨x, 0, none⟩), hdN h c] w fun e w' => e = .returned (.tuple #[]) ∧ Dt w' x (addM m M h).reverse m ∧ Kp x w w' := by
  have hb0 : Below w.heap.size w (w.alloc (.cells #[.string h.1, .string h.2, .bool c] 34)) := (Below.refl _ w).alloc (Nat.le_refl _) _
  have HSZ := Lib.hid (fun W => dsizeOf_any h c W (by omega) (by omega))
  have hs32 : sizeH h ≤ 1000000000000000 := by unfold sizeH; omega
  have HRM := Lib.hid (fun W (hW : Dt W x M.reverse m) => room_any x m (sizeH h) M W hW (by omega) hm hs32)
  have HD := Lib.hid hd
  have hxl := hd.lt
  have HAD : Hid (addM m M h = if sizeH h ≤ m then shr (m - sizeH h) M ++ [h] else []) := Lib.hid rfl
  have HLE := Lib.hid (shr_le (m - sizeH h) M)
  generalize sizeH h = G at HSZ hs32 HRM HAD HLE
  clear hd
  go_enter Tryd.func14, Tryd.ntmps14
  go_wp2_with fail
  refine (HSZ.out _).mono ?_
  rintro e w1 ⟨rfl, hb1⟩
  have g0 := (hb1.cell (p := ⟨w.heap.size, 0, none⟩) (by simp)).trans (by simp : _ = some (.string h.1))
  have g1 := (hb1.cell (p := ⟨w.heap.size, 1, none⟩) (by simp)).trans (by simp : _ = some (.string h.2))
  have hz1 := hb1.size
  simp only [World.size_alloc] at hz1
  have hB1 : Below w.heap.size w w1 := hb0.trans (hb1.mono (by simp))
  have hd1 := HD.out.below hB1
  have HR1 := Lib.hid (HRM.out w1 hd1)
  clear HSZ HRM hb0 hb1 hd1
  go_wp2_with fail
  refine HR1.out.mono ?_
  rintro e w2 ⟨rfl, hd2, hk2⟩
  have hbb := hk2.block w.heap.size (by omega) (by omega)
  have k0 := (cell_of_block hbb).trans g0
  have k1 := (cell_of_block hbb).trans g1
  have hz2 := hk2.size
  have q1 := hd2.most
  have hz := hd2.z 0
  obtain ⟨a, cp, q0, how⟩ := hd2.row
  obtain ⟨a', c', e, HS⟩ := how.hs
  cases e
  have hK2 : Kp x w w2 := (Kp.of_below hB1).trans hk2
  have HD2 := Lib.hid hd2
  clear HR1 hd2 hk2 hbb g0 g1
  generalize hN : shr (m - G) M = N at HD2 HAD HLE q0 HS how
  have HN := Lib.hid hN
  clear hN
  have hnl : N.reverse.length = N.length := by simp
  have hge := total_ge N
  have hTN := HLE.out.1
  rw [hnl] at q0
  by_cases hG : G ≤ m
  · have hdc : decide ((G : Int) ≤ (m : Int)) = true := by simp; omega
    have hne : ¬ x = w2.heap.size := by have := HD2.out.lt; omega
    have hne' : ¬ w2.heap.size = x := fun e => hne e.symm
    have hfa := fun (W : World) (c : Array Value) (t : TypeId) (a : Addr) => frozen?_alloc_cells W c t a
    rw [hnl] at HS
    have HSX := Lib.hid (HS.kept (((Below.refl w2.heap.size w2).alloc (Nat.le_refl _) (.cells #[.string h.1, .string h.2, .bool false] 34)).drew))
    have q0' : (w2.alloc (.cells #[.string h.1, .string h.2, .bool false] 34)).cell? ⟨x, 0, none⟩ = some (.slice a N.length cp) := (((Below.refl w2.heap.size w2).alloc (Nat.le_refl _) (.cells #[.string h.1, .string h.2, .bool false] 34)).cell (p := ⟨x, 0, none⟩) (by simp only []; omega)).trans q0
    have hxl2 : x + 1 ≤ w2.heap.size := by omega
    clear HS how HLE
    go_upto_region 4 with fail
    go_region_law (first | (refine step_append_h rfl _ _ rfl _ [h] N.reverse rfl w2.heap.size ((hown_new1 w2 w2.heap.size h (Nat.le_refl _)).kept (Below.drew (Below.refl _ _))) a N.length cp rfl HSX.out (by first | (simp; done) | (simp; omega)) (by first | (simp; done) | (simp; omega)) ?_; intro w9 a9 N9 c9 hN9 hown9 hb9; (have hB9 : Below w2.heap.size w2 w9 := (((Below.refl w2.heap.size w2).alloc (Nat.le_refl _) _).drew).trans hb9); have hx9 := (hB9.cell (p := ⟨x, 0, none⟩) (by simp only []; omega)).trans q0; have hz9 := (hB9.frozen (p := ⟨x, 0, none⟩) (by simp only []; omega)).trans hz))
    all_goals go_wp2
    all_goals go_end0
    all_goals refine ⟨rfl, ?_, hK2.trans ((Kp.of_below hB9).set _ _)⟩
    all_goals rw [HAD.out, if_pos hG, List.reverse_append]
    all_goals exact HD2.out.put hB9 hN9.out (hown9.mono hxl2)
  · have hdc : decide ((G : Int) ≤ (m : Int)) = false := by simp; omega
    have e : N = [] := by rw [← HN.out, show m - G = 0 by omega, shr_zero]
    subst e
    go_wp2
    go_end0
    refine ⟨rfl, ?_, hK2⟩
    rw [HAD.out, if_neg hG]
    exact HD2.out
end Go.Proofs.YtbdpeioafelolaaDoor
