/-
  CONTRACTS: a reading: indexed, added, never, plain, resized.
-/
import Derived.Test.YtlfnglnokakpfaaDoorL
namespace Go.Proofs.YtlfnglnokakpfaaDoor
open Go.RowKit Tt Hu Hu.Hf

theorem says_len (l : List UInt8) : ∀ (r i c n : Nat) (out t : List UInt8), says l r i c n out = some t → t.length ≤ out.length + r
  | 0, i, c, n, out, t, h => by
    unfold says at h
    split at h
    · cases h
    · cases h; omega
  | r + 1, i, c, n, out, t, h => by
    unfold says at h
    split at h
    · have := says_len l r _ _ _ out t h; omega
    · split at h
      · cases h
      · have := says_len l r _ _ _ _ t h
        simp only [List.length_append, List.length_cons, List.length_nil] at this
        omega
theorem getText_size {l : List UInt8} {t : ByteArray} {k : Nat} (h : getText l = .ok (t, k)) : t.size ≤ 200000 := by
  unfold getText at h
  cases hi : getInt 7 l with
  | er c => rw [hi] at h; cases h
  | ok p =>
    obtain ⟨n, j⟩ := p
    rw [hi] at h
    simp only at h
    by_cases h1 : 16384 < n
    · rw [if_pos h1] at h; cases h
    · rw [if_neg h1] at h
      by_cases h2 : l.length - j < n
      · rw [if_pos h2] at h; cases h
      · rw [if_neg h2] at h
        by_cases h3 : (l.getD 0 0).toNat < 128
        · rw [if_pos h3] at h
          cases h
          have : ((l.drop j).take n).length ≤ n := List.length_take_le _ _
          show ((l.drop j).take n).toArray.size ≤ _
          simp only [List.size_toArray]
          omega
        · rw [if_neg h3] at h
          split at h
          · rename_i t' ht
            cases h
            have h4 := says_len _ _ _ _ _ _ _ ht
            have h5 : ((l.drop j).take n).length ≤ n := List.length_take_le _ _
            show t'.toArray.size ≤ _
            simp only [List.size_toArray, List.length_nil] at *
            omega
          · cases h
theorem textS_size {s s1 : RS} {t : ByteArray} (h : textS s = .ok (t, s1)) : t.size ≤ 200000 := by
  unfold textS at h
  cases hi : getText s.left with
  | er c => rw [hi] at h; cases h
  | ok p =>
    obtain ⟨t', k⟩ := p
    rw [hi] at h
    simp only at h
    cases h
    exact getText_size hi
theorem stH_small (i : Nat) : (stH i).1.size ≤ 4096 ∧ (stH i).2.size ≤ 4096 := by
  have h : standL.all (fun h => decide (h.1.size ≤ 4096) && decide (h.2.size ≤ 4096)) = true := by decide +kernel
  unfold stH
  rw [List.getD_eq_getElem?_getD]
  cases hg : standL[i]? with
  | none => exact ⟨by decide, by decide⟩
  | some g =>
    have := List.all_eq_true.1 h g (List.mem_of_getElem? hg)
    simpa using this
theorem mem_small : ∀ {M : List Hd} {g : Hd}, g ∈ M → sizeH g ≤ total M
  | h :: t, g, hg => by
    simp only [total]
    rcases List.mem_cons.1 hg with rfl | hg
    · omega
    · have := mem_small hg; omega
theorem getM_small {M : List Hd} {n : Nat} {g : Hd} (hT : total M ≤ 4096) (h : getM M (n : Int) = some g) : g.1.size ≤ 4096 ∧ g.2.size ≤ 4096 := by
  unfold getM at h
  split at h
  · cases h; exact stH_small _
  · split at h
    · rename_i h1 h2
      cases h
      unfold nth
      rw [List.getD_eq_getElem?_getD]
      cases hg : M[M.length - 1 - ((n : Int) - 62).toNat]? with
      | none => exact ⟨by decide, by decide⟩
      | some g' =>
        have := mem_small (List.mem_of_getElem? hg)
        simp only [Option.getD_some]
        unfold sizeH at this
        omega
    · cases h
theorem headS_size {s s1 : RS} {n : Nat} {g : Hd} (hT : total s.M ≤ 4096) (h : headS n s = .ok (g, s1)) : g.1.size ≤ 4096 ∧ g.2.size ≤ 4096 ∧ s1 = s := by
  unfold headS at h
  cases hi : getM s.M (n : Int) with
  | none => rw [hi] at h; cases h
  | some g' =>
    rw [hi] at h
    cases h
    have := getM_small hT hi
    exact ⟨this.1, this.2, rfl⟩
theorem namedS_size {s s1 : RS} {n : Nat} {g : Hd} (hT : total s.M ≤ 4096) (h : namedS n s = .ok (g, s1)) : g.1.size ≤ 200000 ∧ g.2.size ≤ 200000 := by
  unfold namedS at h
  split at h
  · cases h1 : textS s with
    | er c => rw [h1] at h; cases h
    | ok q =>
      obtain ⟨t, s2⟩ := q
      rw [h1] at h
      simp only at h
      cases h2 : textS s2 with
      | er c => rw [h2] at h; cases h
      | ok q2 =>
        obtain ⟨v, s3⟩ := q2
        rw [h2] at h
        cases h
        exact ⟨textS_size h1, textS_size h2⟩
  · cases h1 : getM s.M (n : Int) with
    | none => rw [h1] at h; cases h
    | some g' =>
      rw [h1] at h
      simp only at h
      cases h2 : textS s with
      | er c => rw [h2] at h; cases h
      | ok q2 =>
        obtain ⟨v, s3⟩ := q2
        rw [h2] at h
        cases h
        have := getM_small hT h1
        exact ⟨by simp only []; omega, textS_size h2⟩

def indexedS (n : Nat) (s : RS) : Res (Unit × RS) := match headS n s with
  | .er c => .er c
  | .ok (g, s1) => takeS (g, false) s1
def litS (nv : Bool) (n : Nat) (s : RS) : Res (Unit × RS) := match namedS n s with
  | .er c => .er c
  | .ok (g, s1) => takeS (g, nv) s1
def addedS (n : Nat) (s : RS) : Res (Unit × RS) := match namedS n s with
  | .er c => .er c
  | .ok (g, s1) => match takeS (g, false) s1 with
    | .er c => .er c
    | .ok (_, s2) => .ok ((), { s2 with M := addM s2.m s2.M g })
def resizedS (limit n : Nat) (s : RS) : Res (Unit × RS) := if 0 < s.out.length ∨ limit < n then .er 109 else .ok ((), { s with m := n, M := shr n s.M })
abbrev unitV : Unit → Value := fun _ => .tuple #[]
theorem Rg'.tot {w : World} {r A limit : Nat} {s : RS} (h : Rg' w r A limit s) : total s.M ≤ 4096 := Nat.le_trans h.has.total_le h.m
theorem Rg'.env {w w' : World} {r A limit : Nat} {s : RS} {E : Nat → Value} (h : Rg' w r A limit s) (hE : Env w E) (hk : Kr r A w w') : Env w' E := hE.kq h.glob h.ne h.ne (hk.kq h)

set_option maxRecDepth 100000 in
theorem indexed_any (E : Nat → Value) (r A limit : Nat) (s : RS) (n : Nat) (hn : n ≤ 2147483647) (w : World) (h : Rg' w r A limit s) (hE : Env w E) (hX : Errs E) :
    Calls Tryd.prog 98 #[.pointer (some ⟨r, 0, none⟩), .int .i64 (n : Int)] w (Step E r A limit unitV (indexedS n s) w) := by
  have HH := Lib.hid (header_any E r A limit s n hn w h hE hX)
  have HTK := Lib.hid (fun g W (hg : g.1.size ≤ 4096 ∧ g.2.size ≤ 4096) (hr : Rg' W r A limit s) (he : Env W E) => take_any E r A limit s (g, false) (by simp only []; omega) (by simp only []; omega) W hr he hX)
  have HENV := Lib.hid (fun W (hk : Kr r A w W) => h.env hE hk)
  have hT := h.tot
  clear h hE hX
  cases hh : headS n s with
  | er c =>
    have HU : Hid (indexedS n s = .er c) := Lib.hid (by unfold indexedS; rw [hh])
    rw [hh] at HH
    clear hh
    go_enter Tryd.func98, Tryd.ntmps98
    go_wp2_with fail
    refine HH.out.mono ?_
    rintro e w1 ⟨hk, rfl⟩
    go_wp2_with fail
    exact ⟨rfl, hk, by rw [HU.out]; rfl⟩
  | ok q =>
    obtain ⟨g, s1⟩ := q
    obtain ⟨g1, g2, rfl⟩ := headS_size hT hh
    have HU : Hid (indexedS n s1 = takeS (g, false) s1) := Lib.hid (by unfold indexedS; rw [hh])
    rw [hh] at HH
    clear hh
    go_enter Tryd.func98, Tryd.ntmps98
    go_wp2_with fail
    refine HH.out.mono ?_
    rintro e w1 ⟨hk, rfl, hr⟩
    have HT1 := Lib.hid (HTK.out g w1 ⟨g1, g2⟩ hr (HENV.out w1 hk))
    clear HH HTK
    cases ht : takeS (g, false) s1 with
    | er c =>
      rw [ht] at HT1 HU
      clear ht
      go_wp2_with fail
      refine HT1.out.mono ?_
      rintro e w2 ⟨hk2, rfl⟩
      go_wp2_with fail
      exact ⟨rfl, hk.trans hk2, by rw [HU.out]; rfl⟩
    | ok q2 =>
      obtain ⟨_, s2⟩ := q2
      rw [ht] at HT1 HU
      clear ht
      go_wp2_with fail
      refine HT1.out.mono ?_
      rintro e w2 ⟨hk2, rfl, hr2⟩
      go_wp2_with fail
      go_end0
      exact ⟨hk.trans hk2, by rw [HU.out]; exact ⟨rfl, hr2⟩⟩
set_option maxRecDepth 100000 in
theorem plain_any (E : Nat → Value) (r A limit : Nat) (s : RS) (n : Nat) (hn : n ≤ 2147483647) (w : World) (h : Rg' w r A limit s) (hE : Env w E) (hX : Errs E) :
    Calls Tryd.prog 102 #[.pointer (some ⟨r, 0, none⟩), .int .i64 (n : Int)] w (Step E r A limit unitV (litS false n s) w) := by
  have HH := Lib.hid (named_any E r A limit s n hn w h hE hX)
  have HTK := Lib.hid (fun g s1 W (hg : g.1.size ≤ 200000 ∧ g.2.size ≤ 200000) (hr : Rg' W r A limit s1) (he : Env W E) => take_any E r A limit s1 (g, false) (by simp only []; omega) (by simp only []; omega) W hr he hX)
  have HENV := Lib.hid (fun W (hk : Kr r A w W) => h.env hE hk)
  have hT := h.tot
  clear h hE hX
  cases hh : namedS n s with
  | er c =>
    have HU : Hid (litS false n s = .er c) := Lib.hid (by unfold litS; rw [hh])
    rw [hh] at HH
    clear hh
    go_enter Tryd.func102, Tryd.ntmps102
    go_wp2_with fail
    refine HH.out.mono ?_
    rintro e w1 ⟨hk, rfl⟩
    go_wp2_with fail
    exact ⟨rfl, hk, by rw [HU.out]; rfl⟩
  | ok q =>
    obtain ⟨g, s1⟩ := q
    have hg := namedS_size hT hh
    have HU : Hid (litS false n s = takeS (g, false) s1) := Lib.hid (by unfold litS; rw [hh])
    rw [hh] at HH
    clear hh
    go_enter Tryd.func102, Tryd.ntmps102
    go_wp2_with fail
    refine HH.out.mono ?_
    rintro e w1 ⟨hk, rfl, hr⟩
    have HT1 := Lib.hid (HTK.out g s1 w1 hg hr (HENV.out w1 hk))
    clear HH HTK
    cases ht : takeS (g, false) s1 with
    | er c =>
      rw [ht] at HT1 HU
      clear ht
      go_wp2_with fail
      refine HT1.out.mono ?_
      rintro e w2 ⟨hk2, rfl⟩
      go_wp2_with fail
      exact ⟨rfl, hk.trans hk2, by rw [HU.out]; rfl⟩
    | ok q2 =>
      obtain ⟨_, s2⟩ := q2
      rw [ht] at HT1 HU
      clear ht
      go_wp2_with fail
      refine HT1.out.mono ?_
      rintro e w2 ⟨hk2, rfl, hr2⟩
      go_wp2_with fail
      go_end0
      exact ⟨hk.trans hk2, by rw [HU.out]; exact ⟨rfl, hr2⟩⟩
set_option maxRecDepth 100000 in
theorem never_any (E : Nat → Value) (r A limit : Nat) (s : RS) (n : Nat) (hn : n ≤ 2147483647) (w : World) (h : Rg' w r A limit s) (hE : Env w E) (hX : Errs E) :
    Calls Tryd.prog 101 #[.pointer (some ⟨r, 0, none⟩), .int .i64 (n : Int)] w (Step E r A limit unitV (litS true n s) w) := by
  have HH := Lib.hid (named_any E r A limit s n hn w h hE hX)
  have HTK := Lib.hid (fun g s1 W (hg : g.1.size ≤ 200000 ∧ g.2.size ≤ 200000) (hr : Rg' W r A limit s1) (he : Env W E) => take_any E r A limit s1 (g, true) (by simp only []; omega) (by simp only []; omega) W hr he hX)
  have HENV := Lib.hid (fun W (hk : Kr r A w W) => h.env hE hk)
  have hT := h.tot
  clear h hE hX
  cases hh : namedS n s with
  | er c =>
    have HU : Hid (litS true n s = .er c) := Lib.hid (by unfold litS; rw [hh])
    rw [hh] at HH
    clear hh
    go_enter Tryd.func101, Tryd.ntmps101
    go_wp2_with fail
    refine HH.out.mono ?_
    rintro e w1 ⟨hk, rfl⟩
    go_wp2_with fail
    exact ⟨rfl, hk, by rw [HU.out]; rfl⟩
  | ok q =>
    obtain ⟨g, s1⟩ := q
    have hg := namedS_size hT hh
    have HU : Hid (litS true n s = takeS (g, true) s1) := Lib.hid (by unfold litS; rw [hh])
    rw [hh] at HH
    clear hh
    go_enter Tryd.func101, Tryd.ntmps101
    go_wp2_with fail
    refine HH.out.mono ?_
    rintro e w1 ⟨hk, rfl, hr⟩
    have hr1l := hr.lt
    have hbA : Below w1.heap.size w1 (w1.alloc (.cells #[.string g.1, .string g.2, .bool true] 77)) := (Below.refl _ _).alloc (Nat.le_refl _) _
    have HKA : Hid (Kr r A w1 (w1.alloc (.cells #[.string g.1, .string g.2, .bool true] 77))) := Lib.hid (Kr.of_below hbA hr1l)
    have HT1 := Lib.hid (HTK.out g s1 _ hg (hr.below hbA) (HENV.out _ (hk.trans HKA.out)))
    clear HH HTK hbA
    cases ht : takeS (g, true) s1 with
    | er c =>
      rw [ht] at HT1 HU
      clear ht
      go_wp2_with fail
      refine HT1.out.mono ?_
      rintro e w2 ⟨hk2, rfl⟩
      go_wp2_with fail
      exact ⟨rfl, (hk.trans HKA.out).trans hk2, by rw [HU.out]; rfl⟩
    | ok q2 =>
      obtain ⟨_, s2⟩ := q2
      rw [ht] at HT1 HU
      clear ht
      go_wp2_with fail
      refine HT1.out.mono ?_
      rintro e w2 ⟨hk2, rfl, hr2⟩
      go_wp2_with fail
      go_end0
      exact ⟨(hk.trans HKA.out).trans hk2, by rw [HU.out]; exact ⟨rfl, hr2⟩⟩
end Go.Proofs.YtlfnglnokakpfaaDoor
