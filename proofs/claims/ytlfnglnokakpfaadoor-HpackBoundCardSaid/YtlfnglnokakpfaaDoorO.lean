/-
  CONTRACTS: a reading: added, resized.
-/
import Derived.Test.YtlfnglnokakpfaaDoorN
namespace Go.Proofs.YtlfnglnokakpfaaDoor
open Go.RowKit Tt Hu Hu.Hf

theorem Rg'.tab {w w' : World} {r A limit : Nat} {s : RS} (h : Rg' w r A limit s) (hk : Kp A w w') (m : Nat) (M : List Hd) (hh : Has w' A m M) (hm : m ≤ 4096) : Rg' w' r A limit { s with m := m, M := M } := by
  obtain ⟨la, ln, lc, a0, a1, a2⟩ := h.c0
  obtain ⟨u, a3, a4⟩ := h.c3
  have hA := h.ne
  have hr := hk.block r h.lt (by omega)
  exact ⟨⟨la, ln, lc, (World.cell?_of_block (a := ⟨r, 0, none⟩) hr).trans a0, sl_kp a1 hk (fun p hp h0 => (a2 p hp h0).2), a2⟩, (World.cell?_of_block (a := ⟨r, 1, none⟩) hr).trans h.c1, (World.cell?_of_block (a := ⟨r, 2, none⟩) hr).trans h.c2,
    ⟨u, (World.cell?_of_block (a := ⟨r, 3, none⟩) hr).trans a3, a4.kp hk (by omega)⟩, (World.cell?_of_block (a := ⟨r, 4, none⟩) hr).trans h.c4, fun j => (World.frozen?_of_block (a := ⟨r, j, none⟩) hr).trans (h.z j), hh, h.ne, hm, h.lim, h.len, h.sz, h.ol, h.glob⟩

set_option maxRecDepth 100000 in
set_option maxHeartbeats 2000000 in
theorem added_any (E : Nat → Value) (r A limit : Nat) (s : RS) (n : Nat) (hn : n ≤ 2147483647) (w : World) (h : Rg' w r A limit s) (hE : Env w E) (hX : Errs E) :
    Calls Tryd.prog 99 #[.pointer (some ⟨r, 0, none⟩), .int .i64 (n : Int)] w (Step E r A limit unitV (addedS n s) w) := by
  have HH := Lib.hid (named_any E r A limit s n hn w h hE hX)
  have HTK := Lib.hid (fun g s1 W (hg : g.1.size ≤ 200000 ∧ g.2.size ≤ 200000) (hr : Rg' W r A limit s1) (he : Env W E) => take_any E r A limit s1 (g, false) (by simp only []; omega) (by simp only []; omega) W hr he hX)
  have HENV := Lib.hid (fun W (hk : Kr r A w W) => h.env hE hk)
  have hT := h.tot
  have hAr := h.ne
  clear h hE hX
  cases hh : namedS n s with
  | er c =>
    have HU : Hid (addedS n s = .er c) := Lib.hid (by unfold addedS; rw [hh])
    rw [hh] at HH
    clear hh
    go_enter Tryd.func99, Tryd.ntmps99
    go_wp2_with fail
    refine HH.out.mono ?_
    rintro e w1 ⟨hk, rfl⟩
    go_wp2_with fail
    exact ⟨rfl, hk, by rw [HU.out]; rfl⟩
  | ok q =>
    obtain ⟨g, s1⟩ := q
    have hg := namedS_size hT hh
    have HU : Hid (addedS n s = match takeS (g, false) s1 with
      | .er c => .er c
      | .ok (_, s2) => .ok ((), { s2 with M := addM s2.m s2.M g })) := Lib.hid (by unfold addedS; rw [hh]; rfl)
    rw [hh] at HH
    clear hh
    go_enter Tryd.func99, Tryd.ntmps99
    go_wp2_with fail
    refine HH.out.mono ?_
    rintro e w1 ⟨hk, rfl, hr⟩
    have hr1l := hr.lt
    have hbA : Below w1.heap.size w1 (w1.alloc (.cells #[.string g.1, .string g.2, .bool false] 77)) := (Below.refl _ _).alloc (Nat.le_refl _) _
    have HKA : Hid (Kr r A w1 (w1.alloc (.cells #[.string g.1, .string g.2, .bool false] 77))) := Lib.hid (Kr.of_below hbA hr1l)
    have HT1 := Lib.hid (HTK.out g s1 _ hg (hr.below hbA) (HENV.out _ (hk.trans HKA.out)))
    have HBX := Lib.hid (Bx.new w1 (.string g.1) (.string g.2) (.bool false) 77)
    have HLV : Hid ((lv r (w1.alloc (.cells #[.string g.1, .string g.2, .bool false] 77))).ownBlock ≠ some w1.heap.size) := Lib.hid (by rw [lv_alloc hr1l]; exact hr.own_ne (Or.inr (Nat.le_refl _)))
    clear HH HTK hbA
    cases ht : takeS (g, false) s1 with
    | er c =>
      rw [ht] at HT1 HU
      clear ht
      go_wp2_with fail
      refine HT1.out.mono ?_
      rintro e w2 ⟨hk2, rfl⟩
      go_wp2_with fail
      exact ⟨rfl, (hk.trans HKA.out).trans hk2, by rw [HU.out]; rfl⟩
    | ok q2 =>
      obtain ⟨_, s2⟩ := q2
      rw [ht] at HT1 HU
      simp only at HU
      clear ht
      go_wp2_with fail
      refine HT1.out.mono ?_
      rintro e w2 ⟨hk2, rfl, hr2⟩
      obtain ⟨hbk, _⟩ := hk2.box (k := w1.heap.size) (by simp) (by omega) hr1l HLV.out
      have F := HBX.out.keep hbk
      have f0 := F.c0
      have f1 := F.c1
      have f2 := F.c2
      have c1 := hr2.c1
      have hr2l := hr2.lt
      have HR2 := Lib.hid hr2
      have HKK := Lib.hid ((hk.trans HKA.out).trans hk2)
      generalize w1.heap.size = Hb at f0 f1 f2 hr1l ⊢
      have HADT : Hid (∀ W, Below w2.heap.size w2 W → Calls Tryd.prog 81 #[.pointer (some ⟨A, 0, none⟩), hdN g false] W fun e w' => e = .returned (.tuple #[]) ∧ Has w' A s2.m (addM s2.m s2.M g) ∧ Kp A W w') := Lib.hid (fun W hW => has_add (HR2.out.has.below hW) HR2.out.m g false (by omega) (by omega))
      clear HT1 hk hk2 hr2 hr F HBX HLV HKA HENV hbk
      go_upto_region 2 with fail
      go_region_law (go_simp; (with_reducible_and_instances refine Calls.mono (HADT.out _ (by first | assumption | exact Below.refl _ _ | exact Below.drew (Below.refl _ _))) ?_); rintro e w6 ⟨rfl, hA6, hk6⟩; go_simp)
      all_goals
        have hk26 : Kp A w2 w6 := ((Kp.refl A w2).drew).trans hk6
        go_wp2_with fail
        go_end0
        exact ⟨HKK.out.trans (Kr.of_kp hk26 (by omega) hr2l), by rw [HU.out]; exact ⟨rfl, HR2.out.tab hk26 _ _ hA6 HR2.out.m⟩⟩

set_option maxRecDepth 100000 in
set_option maxHeartbeats 2000000 in
theorem resized_any (E : Nat → Value) (r A limit : Nat) (s : RS) (n : Nat) (w : World) (h : Rg' w r A limit s) (hE : Env w E) (hX : Errs E) :
    Calls Tryd.prog 100 #[.pointer (some ⟨r, 0, none⟩), .int .i64 (n : Int)] w (Step E r A limit unitV (resizedS limit n s) w) := by
  have c1 := h.c1
  have c2 := h.c2
  obtain ⟨v, c3, hown⟩ := h.c3
  obtain ⟨ad, cp, hv, _⟩ := hown.ns
  subst hv
  have hlt := h.lt
  have hlim := h.lim
  have HR := Lib.hid h
  have hAr := h.ne
  obtain ⟨ty, p, hx⟩ := hX 109
  have hcE := hE.c109
  rw [hx] at hcE
  have HX := Lib.hid hx
  have HRU : Hid (resizedS limit n s = if 0 < s.out.length ∨ limit < n then .er 109 else .ok ((), { s with m := n, M := shr n s.M })) := Lib.hid rfl
  have HRS := Lib.hid (fun (hn : n ≤ 4096) => has_resize h.has h.m n hn)
  have hol := h.ol
  have hsz := h.sz
  generalize hL : s.out.length = L at c3 HRU hol
  clear h hE hX hx hown hL
  by_cases h1 : 0 < L
  · have HU : Hid (resizedS limit n s = .er 109) := Lib.hid (by rw [HRU.out, if_pos (Or.inl h1)])
    clear HRU
    go_enter Tryd.func100, Tryd.ntmps100
    go_wp2_with fail
    refine (giveUp_any ty p _).mono ?_
    rintro e w' ⟨rfl, rfl⟩
    go_wp2_with fail
    exact ⟨rfl, Kr.of_below (Below.refl _ _) hlt, by rw [HU.out]; show _ = _; rw [HX.out]⟩
  · obtain rfl : L = 0 := by omega
    by_cases h2 : limit < n
    · have HU : Hid (resizedS limit n s = .er 109) := Lib.hid (by rw [HRU.out, if_pos (Or.inr h2)])
      have hdc : decide (limit < n) = true := by simpa using h2
      clear HRU
      go_enter Tryd.func100, Tryd.ntmps100
      go_wp2_with fail
      refine (giveUp_any ty p _).mono ?_
      rintro e w' ⟨rfl, rfl⟩
      go_wp2_with fail
      exact ⟨rfl, Kr.of_below (Below.refl _ _) hlt, by rw [HU.out]; show _ = _; rw [HX.out]⟩
    · have HU : Hid (resizedS limit n s = .ok ((), { s with m := n, M := shr n s.M })) := Lib.hid (by rw [HRU.out, if_neg (by simp; omega)])
      have hdc : decide (limit < n) = false := by simpa using h2
      have HRS2 := Lib.hid (HRS.out (by omega))
      clear HRU HRS hcE
      go_enter Tryd.func100, Tryd.ntmps100
      go_wp2_with fail
      refine HRS2.out.mono ?_
      rintro e w1 ⟨rfl, hA, hk⟩
      go_wp2_with fail
      go_end0
      exact ⟨Kr.of_kp hk (by omega) hlt, by rw [HU.out]; exact ⟨rfl, HR.out.tab hk _ _ hA (by omega)⟩⟩
end Go.Proofs.YtlfnglnokakpfaaDoor
