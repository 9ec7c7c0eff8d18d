/-
  CONTRACTS: a reading: kinds, all.
-/
import Derived.Test.YtlfnglnokakpfaaDoorO
import Derived.LoopTactic
namespace Go.Proofs.YtlfnglnokakpfaaDoor
open Go.RowKit Tt Hu Hu.Hf

def kindOf (c : Nat) : Nat := if 128 ≤ c then 0 else if 64 ≤ c then 1 else if 32 ≤ c then 2 else if 16 ≤ c then 3 else 4
def bitsK : Nat → Nat
  | 0 => 7
  | 1 => 6
  | 2 => 5
  | _ => 4
def fstK : Nat → Nat
  | 0 => 128
  | 1 => 64
  | 2 => 32
  | 3 => 16
  | _ => 0
def readK (limit k n : Nat) (s : RS) : Res (Unit × RS) := match k with
  | 0 => indexedS n s
  | 1 => addedS n s
  | 2 => resizedS limit n s
  | 3 => litS true n s
  | _ => litS false n s
def stepS (limit : Nat) (s : RS) : Res (Unit × RS) := match s.left with
  | [] => .ok ((), s)
  | c :: _ => match numS (bitsK (kindOf c.toNat)) s with
    | .er e => .er e
    | .ok (n, s1) => readK limit (kindOf c.toNat) n s1
def allS (limit : Nat) : Nat → RS → Res (Unit × RS)
  | 0, s => .ok ((), s)
  | f + 1, s => if s.left.length = 0 then .ok ((), s) else match stepS limit s with
    | .er c => .er c
    | .ok (_, s1) => allS limit f s1
theorem takeS_left {h : Hn} {s s1 : RS} {u : Unit} (e : takeS h s = .ok (u, s1)) : s1.left = s.left := by
  unfold takeS at e
  split at e
  · cases e
  · cases e; rfl
theorem textS_left {s s1 : RS} {t : ByteArray} (e : textS s = .ok (t, s1)) : s1.left.length ≤ s.left.length := by
  unfold textS at e
  cases hi : getText s.left with
  | er c => rw [hi] at e; cases e
  | ok p => obtain ⟨t', k⟩ := p; rw [hi] at e; cases e; simp
theorem namedS_left {s s1 : RS} {n : Nat} {g : Hd} (e : namedS n s = .ok (g, s1)) : s1.left.length ≤ s.left.length := by
  unfold namedS at e
  split at e
  · cases h1 : textS s with
    | er c => rw [h1] at e; cases e
    | ok q =>
      obtain ⟨t, s2⟩ := q
      rw [h1] at e
      simp only at e
      cases h2 : textS s2 with
      | er c => rw [h2] at e; cases e
      | ok q2 =>
        obtain ⟨v, s3⟩ := q2
        rw [h2] at e
        cases e
        exact Nat.le_trans (textS_left h2) (textS_left h1)
  · cases h1 : getM s.M (n : Int) with
    | none => rw [h1] at e; cases e
    | some g' =>
      rw [h1] at e
      simp only at e
      cases h2 : textS s with
      | er c => rw [h2] at e; cases e
      | ok q2 =>
        obtain ⟨v, s3⟩ := q2
        rw [h2] at e
        cases e
        exact textS_left h2
theorem litS_left {nv : Bool} {s s1 : RS} {n : Nat} {u : Unit} (e : litS nv n s = .ok (u, s1)) : s1.left.length ≤ s.left.length := by
  unfold litS at e
  cases h1 : namedS n s with
  | er c => rw [h1] at e; cases e
  | ok q =>
    obtain ⟨g, s2⟩ := q
    rw [h1] at e
    simp only at e
    rw [takeS_left e]
    exact namedS_left h1
theorem readK_left {limit k n : Nat} {s s1 : RS} {u : Unit} (e : readK limit k n s = .ok (u, s1)) : s1.left.length ≤ s.left.length := by
  unfold readK at e
  split at e
  · unfold indexedS at e
    cases h1 : headS n s with
    | er c => rw [h1] at e; cases e
    | ok q =>
      obtain ⟨g, s2⟩ := q
      rw [h1] at e
      simp only at e
      rw [takeS_left e]
      unfold headS at h1
      split at h1
      · cases h1
      · cases h1; exact Nat.le_refl _
  · unfold addedS at e
    cases h1 : namedS n s with
    | er c => rw [h1] at e; cases e
    | ok q =>
      obtain ⟨g, s2⟩ := q
      rw [h1] at e
      simp only at e
      cases h2 : takeS (g, false) s2 with
      | er c => rw [h2] at e; cases e
      | ok q2 =>
        obtain ⟨_, s3⟩ := q2
        rw [h2] at e
        cases e
        show s3.left.length ≤ _
        rw [takeS_left h2]
        exact namedS_left h1
  · unfold resizedS at e
    split at e
    · cases e
    · cases e; exact Nat.le_refl _
  · exact litS_left e
  · exact litS_left e
theorem numS_left {bits : Nat} (hb : bits ≤ 8) {s s1 : RS} {n : Nat} (e : numS bits s = .ok (n, s1)) : s1.left.length < s.left.length ∧ n ≤ 2147483647 := by
  unfold numS at e
  cases hi : getInt bits s.left with
  | er c => rw [hi] at e; cases e
  | ok p =>
    obtain ⟨n', k⟩ := p
    have := getInt_ok hb hi
    rw [hi] at e
    cases e
    simp
    omega
theorem bitsK_le (k : Nat) : 1 ≤ bitsK k ∧ bitsK k ≤ 8 := by unfold bitsK; split <;> omega
theorem stepS_left {limit : Nat} {s s1 : RS} {u : Unit} (hl : s.left.length ≠ 0) (e : stepS limit s = .ok (u, s1)) : s1.left.length < s.left.length := by
  unfold stepS at e
  split at e
  · rename_i h; rw [h] at hl; simp at hl
  · rename_i c t h
    cases h1 : numS (bitsK (kindOf c.toNat)) s with
    | er c => rw [h1] at e; cases e
    | ok q =>
      obtain ⟨n, s2⟩ := q
      rw [h1] at e
      simp only at e
      have := numS_left (bitsK_le _).2 h1
      have := readK_left e
      omega
theorem allS_fuel (limit : Nat) : ∀ (f : Nat) (s : RS), s.left.length ≤ f → allS limit f s = allS limit s.left.length s
  | 0, s, h => by rw [show s.left.length = 0 by omega]
  | f + 1, s, h => by
    have e1 : ∀ f, allS limit (f + 1) s = (if s.left.length = 0 then .ok ((), s) else match stepS limit s with
      | .er c => .er c
      | .ok (_, s1) => allS limit f s1) := fun _ => rfl
    rcases Nat.eq_zero_or_pos s.left.length with hl | hl
    · rw [e1, if_pos hl, hl]; rfl
    · obtain ⟨m, hm⟩ : ∃ m, s.left.length = m + 1 := ⟨s.left.length - 1, by omega⟩
      rw [hm, e1, e1, if_neg (by omega), if_neg (by omega)]
      cases hs : stepS limit s with
      | er c => rfl
      | ok q =>
        obtain ⟨u, s1⟩ := q
        have := stepS_left (by omega) hs
        show allS limit f s1 = allS limit m s1
        rw [allS_fuel limit f s1 (by omega), allS_fuel limit m s1 (by omega)]
theorem kindOf_lt (c : Nat) : kindOf c < 5 := by unfold kindOf; repeat (split <;> try omega)
theorem kindOf_ge (c j : Nat) (h : j < kindOf c) : c < fstK j := by
  have h5 := kindOf_lt c
  have hj : j = 0 ∨ j = 1 ∨ j = 2 ∨ j = 3 := by omega
  unfold kindOf at h
  rcases hj with rfl | rfl | rfl | rfl <;> (simp only [fstK]; repeat (split at h <;> try omega))
theorem kindOf_eq (c : Nat) : ¬ c < fstK (kindOf c) := by
  unfold kindOf
  repeat (split <;> try (simp only [fstK]; omega))

def fnK : Nat → FuncId
  | 0 => 98
  | 1 => 99
  | 2 => 100
  | 3 => 101
  | _ => 102
/-- The list of kinds at block K. -/
structure Kc (w : World) (K : Nat) : Prop where
  c0 : ∀ k, k < 5 → w.cell? ⟨K, k * 3, none⟩ = some (.int .u8 ((fstK k : Nat) : Int))
  c1 : ∀ k, k < 5 → w.cell? ⟨K, k * 3 + 1, none⟩ = some (.int .i64 ((bitsK k : Nat) : Int))
  c2 : ∀ k, k < 5 → w.cell? ⟨K, k * 3 + 2, none⟩ = some (.func (.func (fnK k)) #[] #[])
theorem Kc.keep {w w' : World} {K : Nat} (h : Kc w K) (hb : w'.heap[K]? = w.heap[K]?) : Kc w' K :=
  ⟨fun k hk => (World.cell?_of_block (a := ⟨K, k * 3, none⟩) hb).trans (h.c0 k hk), fun k hk => (World.cell?_of_block (a := ⟨K, k * 3 + 1, none⟩) hb).trans (h.c1 k hk), fun k hk => (World.cell?_of_block (a := ⟨K, k * 3 + 2, none⟩) hb).trans (h.c2 k hk)⟩
set_option maxRecDepth 100000 in
theorem kinds_any (w : World) : Calls Tryd.prog 84 #[] w fun e w' => e = .returned (.slice (some ⟨w.heap.size, 0, none⟩) 5 5) ∧ Kc w' w.heap.size ∧ Below w.heap.size w w' ∧ w.heap.size < w'.heap.size := by
  go_enter Tryd.func84, Tryd.ntmps84
  go_wp2
  go_ret
  refine ⟨rfl, ⟨?_, ?_, ?_⟩, (Below.refl _ _).alloc (Nat.le_refl _) _, by simp⟩
  all_goals
    intro k hk
    have h5 : k = 0 ∨ k = 1 ∨ k = 2 ∨ k = 3 ∨ k = 4 := by omega
    rcases h5 with rfl | rfl | rfl | rfl | rfl <;> simp [fstK, bitsK, fnK]
/-- The bytes that are left: for a measure. -/
def leftN (w : World) (r : Nat) : Nat := match w.cell? ⟨r, 0, none⟩ with
  | some (.slice _ n _) => n
  | _ => 0
theorem leftN_of {w : World} {r A limit : Nat} {s : RS} (h : Rg' w r A limit s) : leftN w r = s.left.length := by
  obtain ⟨la, ln, lc, a0, a1, _⟩ := h.c0
  unfold leftN
  rw [a0]
  exact a1.len.symm
theorem read_any (E : Nat → Value) (r A limit k : Nat) (hk : k < 5) (s : RS) (n : Nat) (hn : n ≤ 2147483647) (w : World) (h : Rg' w r A limit s) (hE : Env w E) (hX : Errs E) :
    Calls Tryd.prog (fnK k) #[.pointer (some ⟨r, 0, none⟩), .int .i64 (n : Int)] w (Step E r A limit unitV (readK limit k n s) w) := by
  have h5 : k = 0 ∨ k = 1 ∨ k = 2 ∨ k = 3 ∨ k = 4 := by omega
  rcases h5 with rfl | rfl | rfl | rfl | rfl
  · exact indexed_any E r A limit s n hn w h hE hX
  · exact added_any E r A limit s n hn w h hE hX
  · exact resized_any E r A limit s n w h hE hX
  · exact never_any E r A limit s n hn w h hE hX
  · exact plain_any E r A limit s n hn w h hE hX
theorem fnK_enter (k : Nat) (hk : k < 5) (args : Array Value) (W : World) : (callFunc (fnK k) args).run Tryd.prog W = .ok (.enter (fnK k) args) W := by
  have h5 : k = 0 ∨ k = 1 ∨ k = 2 ∨ k = 3 ∨ k = 4 := by omega
  rcases h5 with rfl | rfl | rfl | rfl | rfl
  · show (callFunc 98 args).run Tryd.prog W = .ok (.enter 98 args) W
    kernel_rfl
  · show (callFunc 99 args).run Tryd.prog W = .ok (.enter 99 args) W
    kernel_rfl
  · show (callFunc 100 args).run Tryd.prog W = .ok (.enter 100 args) W
    kernel_rfl
  · show (callFunc 101 args).run Tryd.prog W = .ok (.enter 101 args) W
    kernel_rfl
  · show (callFunc 102 args).run Tryd.prog W = .ok (.enter 102 args) W
    kernel_rfl
/-- The rounds. -/
def AllRel (E : Nat → Value) (r A limit K : Nat) (s : RS) (w wr : World) : Prop := ∃ s', Rg' wr r A limit s' ∧ Env wr E ∧ Kr r A w wr ∧ Kc wr K ∧ K < wr.heap.size ∧ (lv r wr).ownBlock ≠ some K ∧ Hid (allS limit s.left.length s = allS limit s'.left.length s')
/-- The inner rounds. -/
def KinRel (k : Nat) (wo : World) (s3 : Value) (wr : World) : Prop := ∃ j : Nat, s3 = .int .i64 (j : Int) ∧ j ≤ k ∧ Below wo.heap.size wo wr
set_option maxRecDepth 100000 in
set_option maxHeartbeats 8000000 in
theorem all_any (E : Nat → Value) (r A limit : Nat) (s : RS) (w : World) (h : Rg' w r A limit s) (hE : Env w E) (hX : Errs E) :
    Calls Tryd.prog 62 #[.pointer (some ⟨r, 0, none⟩)] w (Step E r A limit unitV (allS limit s.left.length s) w) := by
  have hlt := h.lt
  have hAr := h.ne
  have HR := Lib.hid h
  have HE := Lib.hid hE
  clear h hE
  go_enter Tryd.func62, Tryd.ntmps62
  go_wp2_with fail
  refine (kinds_any _).mono ?_
  rintro e w1 ⟨rfl, hkc, hb1, hlk⟩
  have hl1 : (lv r w1).ownBlock ≠ some w.heap.size := by
    have e : lv r w1 = lv r w := by unfold lv; rw [hb1.cell (p := ⟨r, 3, none⟩) hlt]
    rw [e]; exact HR.out.own_ne (Or.inr (Nat.le_refl _))
  have hrel0 : AllRel E r A limit w.heap.size s w w1 := ⟨s, HR.out.below hb1, HE.out.kept hb1, Kr.of_below hb1 hlt, hkc, hlk, hl1, Lib.hid rfl⟩
  generalize w.heap.size = K at hkc hrel0 hl1 hlk hlt ⊢
  have HREL := Lib.hid hrel0
  clear hkc hb1 hl1 hrel0 hlk
  go_wp2_with fail
  go_loopw [] (fun wr => AllRel E r A limit K s w wr) (fun wr => leftN wr r)
  case atStart => exact HREL.out
  case round =>
    obtain ⟨s', hr', hE', hk', hkc, hKl, hlv, hrun⟩ := hrel
    obtain ⟨la, ln, lc, a0, a1, a2⟩ := hr'.c0
    have hlen := a1.len
    have hl6 := hr'.len
    have hrl := hr'.lt
    by_cases h0 : ln = 0
    · subst h0
      have HRUN : Hid (allS limit s.left.length s = .ok ((), s')) := Lib.hid (by rw [hrun.out, hlen]; rfl)
      have HR' := Lib.hid hr'
      have HK' := Lib.hid hk'
      clear hr' hE' hk' hkc hlv hrun a1 a2 HREL
      go_wp2_with fail
      go_end0
      exact ⟨HK'.out, by rw [HRUN.out]; exact ⟨rfl, HR'.out⟩⟩
    · obtain ⟨b, o, rfl⟩ := a1.some (by omega)
      have e0 := a1.cell (i := 0) (by omega)
      rw [Nat.add_zero] at e0
      obtain ⟨c, t, hct⟩ : ∃ c t, s'.left = c :: t := by
        cases hh : s'.left with
        | nil => rw [hh] at hlen; simp at hlen; omega
        | cons c t => exact ⟨c, t, rfl⟩
      have hg0 : s'.left[0]'(by omega) = c := by simp [hct]
      rw [hg0] at e0
      have HST : Hid (stepS limit s' = match numS (bitsK (kindOf c.toNat)) s' with
        | .er e => .er e
        | .ok (n, s1) => readK limit (kindOf c.toNat) n s1) := Lib.hid (by unfold stepS; rw [hct])
      have hge := fun j => kindOf_ge c.toNat j
      have heq := kindOf_eq c.toNat
      have hk5 := kindOf_lt c.toNat
      have hcl := c.toNat_lt
      have HRUN : Hid (allS limit s.left.length s = match stepS limit s' with
        | .er c => .er c
        | .ok (_, s1) => allS limit s1.left.length s1) := Lib.hid (by
          rw [hrun.out]
          obtain ⟨m, hm⟩ : ∃ m, s'.left.length = m + 1 := ⟨s'.left.length - 1, by omega⟩
          have e1 : allS limit (m + 1) s' = (if s'.left.length = 0 then .ok ((), s') else match stepS limit s' with
            | .er c => .er c
            | .ok (_, s1) => allS limit m s1) := rfl
          rw [hm, e1, if_neg (by omega)]
          cases hs : stepS limit s' with
          | er c => rfl
          | ok q =>
            obtain ⟨u, s1⟩ := q
            have := stepS_left (by omega) hs
            exact allS_fuel limit m s1 (by omega))
      generalize kindOf c.toNat = k at HST hge heq hk5
      have HGE := Lib.hid hge
      have HKC := Lib.hid hkc
      have HR' := Lib.hid hr'
      have HE' := Lib.hid hE'
      have HK' := Lib.hid hk'
      have HLV := Lib.hid hlv
      have hln : (0 : Int) < (ln : Int) := by omega
      clear hge hkc hr' hE' hk' hlv hrun a1 a2 HREL hct hg0
      go_wp2_with fail
      obtain ⟨wo, rfl⟩ : ∃ wo : World, wo = wr := ⟨_, rfl⟩
      go_loopw [3] (fun s3 wr => KinRel k wo s3 wr) (fun s3 _ => 5 - (intOf s3).toNat)
      case atStart => exact ⟨0, rfl, by omega, Below.refl _ _⟩
      case round =>
        obtain ⟨j, rfl, hjk, hbj⟩ := hrel
        have d0 := (hbj.cell (p := ⟨r, 0, none⟩) hrl).trans a0
        have d1 := (hbj.cell (p := ⟨b, o, none⟩) (Hu.cell_lt e0)).trans e0
        have d2 := (HKC.out.keep (hbj.block K hKl)).c0 j (by omega)
        have hia : (0 : Int) ≤ (j : Int) := by omega
        have hib : (j : Int) < 5 := by omega
        by_cases hlt2 : j < k
        · have hcf := HGE.out j hlt2
          generalize fstK j = f at d2 hcf
          have hdc : decide (c.toNat < f) = true := by simpa using hcf
          have HB := Lib.hid hbj
          clear hbj
          go_wp2_with fail
          go_quiet (fail)
          all_goals go_wp2_with fail
          all_goals exact ⟨⟨j + 1, by go_num, by omega, (by repeat (first | exact HB.out | (refine Hu.bdN ?_ _) | (refine Below.drew ?_)))⟩, by simp [intOf]; omega⟩
        · obtain rfl : j = k := by omega
          generalize fstK j = f at d2 heq
          have hdc : decide (c.toNat < f) = false := by simpa using heq
          have HB := Lib.hid hbj
          clear hbj
          go_wp2_with fail
          go_quiet (fail)
          have g1 := (HKC.out.keep (HB.out.block K hKl)).c1 j (by omega)
          have g2 := (HKC.out.keep (HB.out.block K hKl)).c2 j (by omega)
          have HNU := Lib.hid (fun W (hW : Below wo.heap.size wo W) => number_any E r A limit s' (bitsK j) (bitsK_le j).1 (bitsK_le j).2 W (HR'.out.below hW) (HE'.out.kept hW) hX)
          have HRD := Lib.hid (fun s1 n (hn : n ≤ 2147483647) W (hr : Rg' W r A limit s1) (he : Env W E) => read_any E r A limit j hk5 s1 n hn W hr he hX)
          have hbd : ∀ q, Below wo.heap.size wo (wr.drewN q) := fun q => Hu.bdN HB.out q
          have HBD := Lib.hid hbd
          clear d0 d1 d2 hbd hdc heq hX e0 a0
          cases hnu : numS (bitsK j) s' with
          | er cc =>
            have HU : Hid (allS limit s.left.length s = .er cc) := Lib.hid (by rw [HRUN.out, HST.out, hnu])
            rw [hnu] at HNU
            clear HRUN HST hnu HRD
            all_goals go_upto_region 5 with fail
            all_goals go_region_law (go_simp; (with_reducible_and_instances refine Calls.mono (HNU.out _ (by first | exact HBD.out _ | exact Below.drew (HBD.out _))) ?_); rintro e w6 ⟨hk6, rfl⟩; go_simp; (refine (fun (_ : wpAny Tryd.prog Region.Mode.any #[] (fun _ _ _ => True) 0 #[] ⟨#[], []⟩ w6) => ?_) ?_); exact ⟨rfl, HK'.out.trans ((Kr.of_below (by first | exact HBD.out _ | exact Below.drew (HBD.out _)) hrl).trans hk6), by rw [HU.out]; rfl⟩)
            all_goals trivial
          | ok q =>
            obtain ⟨n, s1⟩ := q
            have hnl := numS_left (bitsK_le j).2 hnu
            obtain ⟨hnl1, hnl2⟩ := hnl
            rw [hnu] at HNU HST
            simp only at HST
            clear hnu
            have hcf := fun args W => fnK_enter j hk5 args W
            have HN2 : Hid (∀ W, Below wo.heap.size wo W → Calls Tryd.prog 85 #[.pointer (some ⟨r, 0, none⟩), .int .i64 ((bitsK j : Nat) : Int)] W fun e w' => e = .returned (.int .i64 (n : Int)) ∧ Rg' w' r A limit s1 ∧ Env w' E ∧ Kr r A wo w' ∧ Kc w' K ∧ K < w'.heap.size ∧ (lv r w').ownBlock ≠ some K) := Lib.hid (fun W hW => by
              refine (HNU.out W hW).mono ?_
              rintro e w' ⟨hk6, rfl, hr6⟩
              have hkW := Kr.of_below (A := A) hW hrl
              have hkk := hkW.trans hk6
              obtain ⟨hbk, hlv6⟩ := hkk.block K hKl (by have := hlt; omega) (by omega) HLV.out
              exact ⟨rfl, hr6, HR'.out.env HE'.out hkk, hkk, HKC.out.keep hbk, Nat.lt_of_lt_of_le hKl hkk.size, hlv6⟩)
            clear HNU
            cases hrd : readK limit j n s1 with
            | er cc =>
              have HU : Hid (allS limit s.left.length s = .er cc) := Lib.hid (by rw [HRUN.out, HST.out, hrd])
              have HRD2 := Lib.hid (fun W (hr : Rg' W r A limit s1) (he : Env W E) => HRD.out s1 n hnl2 W hr he)
              rw [hrd] at HRD2
              clear HRUN HST hrd HRD
              all_goals go_upto_region 5 with fail
              all_goals go_region_law (first
                | (go_simp; (with_reducible_and_instances refine Calls.mono (HN2.out _ (by first | exact HBD.out _ | exact Below.drew (HBD.out _))) ?_); rintro e w6 ⟨rfl, hr6, he6, hk6, hkc6, hK6, hl6⟩; have c61 := hkc6.c1 j hk5; have c62 := hkc6.c2 j hk5; go_simp)
                | (go_simp; (with_reducible_and_instances refine Calls.mono (HRD2.out _ (by assumption) (by assumption)) ?_); rintro e w7 ⟨hk7, rfl⟩; go_simp; (refine (fun (_ : wpAny Tryd.prog Region.Mode.any #[] (fun _ _ _ => True) 0 #[] ⟨#[], []⟩ w7) => ?_) ?_); exact ⟨rfl, HK'.out.trans (Kr.trans (by assumption) hk7), by rw [HU.out]; rfl⟩))
              all_goals trivial
            | ok q2 =>
              obtain ⟨u, s2⟩ := q2
              have hsl := readK_left hrd
              have HSL : Hid (s2.left.length < s'.left.length) := Lib.hid (by omega)
              have HU : Hid (allS limit s.left.length s = allS limit s2.left.length s2) := Lib.hid (by rw [HRUN.out, HST.out, hrd])
              have HRD2 : Hid (∀ W, Rg' W r A limit s1 → Env W E → Kr r A wo W → Kc W K → K < W.heap.size → (lv r W).ownBlock ≠ some K → Calls Tryd.prog (fnK j) #[.pointer (some ⟨r, 0, none⟩), .int .i64 (n : Int)] W fun e w' => e = .returned (.tuple #[]) ∧ AllRel E r A limit K s w w' ∧ leftN w' r = s2.left.length) := Lib.hid (fun W hr he hk hkc hK hl => by
                have hc := HRD.out s1 n hnl2 W hr he
                rw [hrd] at hc
                refine hc.mono ?_
                rintro e w' ⟨hk7, rfl, hr7⟩
                obtain ⟨hbk, hl7⟩ := hk7.block K hK (by omega) (by omega) hl
                exact ⟨rfl, ⟨s2, hr7, hr.env he hk7, HK'.out.trans (hk.trans hk7), hkc.keep hbk, Nat.lt_of_lt_of_le hK hk7.size, hl7, HU⟩, leftN_of hr7⟩)
              have HL0 := Lib.hid (leftN_of HR'.out)
              clear HRUN HST hrd HRD hsl
              all_goals go_upto_region 5 with fail
              all_goals go_region_law (first
                | (go_simp; (with_reducible_and_instances refine Calls.mono (HN2.out _ (by first | exact HBD.out _ | exact Below.drew (HBD.out _))) ?_); rintro e w6 ⟨rfl, hr6, he6, hk6, hkc6, hK6, hl6⟩; have c61 := hkc6.c1 j hk5; have c62 := hkc6.c2 j hk5; go_simp)
                | (go_simp; (with_reducible_and_instances refine Calls.mono (HRD2.out _ (by assumption) (by assumption) (by assumption) (by assumption) (by assumption) (by assumption)) ?_); rintro e w7 ⟨rfl, hrel7, hln7⟩; go_simp))
              all_goals
                go_wp2_with fail
                exact ⟨hrel7, by rw [hln7, HL0.out]; exact HSL.out⟩
end Go.Proofs.YtlfnglnokakpfaaDoor
