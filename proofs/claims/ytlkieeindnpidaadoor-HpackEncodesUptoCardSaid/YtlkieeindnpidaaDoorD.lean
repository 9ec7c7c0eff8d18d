/-
  CONTRACTS: Int with a prefix that may not be; Text.
-/
import Derived.Test.YtlkieeindnpidaaDoorC
namespace Go.Proofs.YtlkieeindnpidaaDoor
open Go.RowKit Tt Hu Hu.Hf

theorem int_bad (E : Nat → Value) (bt : Int) (s : Value) (w : World) (hb : bt < 1 ∨ 8 < bt) (hE : Env w E) :
    Calls Tryd.prog 16 #[s, .int .i64 bt] w fun e w' => e = .returned (intV E (.er 102)) ∧ Below w.heap.size w w' := by
  have HPX := Lib.hid (fun W => prefix_no bt hb W)
  have c2 := hE.c102
  clear hE hb
  go_enter Tryd.func16, Tryd.ntmps16
  go_wp2
  go_step3
  go_wp2_with fail
  refine (HPX.out _).mono ?_
  rintro e w' ⟨rfl, rfl⟩
  go_wp2
  go_quiet (fail)
  all_goals go_wp2
  all_goals (try rw [Exit.noGoto_ret])
  all_goals go_ret3
  all_goals exact ⟨rfl, by repeat (first | exact Below.refl _ _ | (refine Hu.bdN ?_ _) | (refine Below.drew ?_))⟩

/-- What Text answers. -/
def textV (E : Nat → Value) : Res (ByteArray × Nat) → Value
  | .ok (s, m) => .tuple #[.string s, .int .i64 (m : Int), .nilIface]
  | .er c => .tuple #[.string ⟨#[]⟩, .int .i64 0, E c]
def TextPost (E : Nat → Value) (r : Res (ByteArray × Nat)) (w : World) (e : Ending) (w' : World) : Prop := e = .returned (textV E r) ∧ Below w.heap.size w w'
/-- An error is no nil. -/
def Errs (E : Nat → Value) : Prop := ∀ c, ∃ ty p, E c = .iface ty p
set_option maxRecDepth 100000 in
set_option maxHeartbeats 4000000 in
theorem text_any (E : Nat → Value) (a : Option Addr) (n c : Nat) (l : List UInt8) (w : World) (hs : Sl w a n c l) (hn : n ≤ 1000000) (hE : Env w E) (hX : Errs E) :
    Calls Tryd.prog 21 #[.slice a n c] w (TextPost E (getText l) w) := by
  have hlen := hs.len
  have hcn := hs.le
  have hcm := hs.max
  unfold maxLen at hcm
  have HS := Lib.hid hs
  have HE := Lib.hid hE
  have HI := Lib.hid (int_any E 7 a n c l w (by omega) (by omega) hs hE)
  clear hs hE
  cases hi : getInt 7 l with
  | er d =>
    rw [hi] at HI
    have HR : Hid (getText l = .er d) := Lib.hid (by unfold getText; rw [hi])
    obtain ⟨ty, p, hx⟩ := hX d
    have HX := Lib.hid hx
    clear hX hi hx
    go_enter Tryd.func21, Tryd.ntmps21
    go_wp2_with fail
    refine HI.out.mono ?_
    rintro e w1 ⟨rfl, hb1⟩
    simp only [intV, HX.out]
    go_wp2
    go_ret3
    exact ⟨by rw [HR.out]; simp only [textV, HX.out]; rfl, hb1⟩
  | ok q =>
    obtain ⟨m, k⟩ := q
    rw [hi] at HI
    have hk := getInt_ok (by omega) hi
    obtain ⟨hm1, hk1, hk2, hk3⟩ := hk
    have HG : Hid (getText l = if 16384 < m then .er 102 else if l.length - k < m then .er 101 else if (l.getD 0 0).toNat < 128 then .ok (⟨((l.drop k).take m).toArray⟩, k + m) else match saysText ((l.drop k).take m) with
      | some t => .ok (⟨t.toArray⟩, k + m)
      | none => .er 107) := Lib.hid (by unfold getText; rw [hi]; rfl)
    clear hi
    by_cases h1 : 16384 < m
    · have HR : Hid (getText l = .er 102) := Lib.hid (by rw [HG.out, if_pos h1])
      have hdi : decide ((16384 : Int) < (m : Int)) = true := by simp; omega
      clear HG hX h1
      go_enter Tryd.func21, Tryd.ntmps21
      go_wp2_with fail
      refine HI.out.mono ?_
      rintro e w1 ⟨rfl, hb1⟩
      have c2 := (HE.out.kept hb1).c102
      simp only [intV]
      go_wp2
      go_quiet (fail)
      all_goals go_wp2
      all_goals go_ret3
      all_goals exact ⟨by rw [HR.out]; rfl, by repeat (first | exact hb1 | (refine Hu.bdN ?_ _) | (refine Below.drew ?_))⟩
    · by_cases h2 : l.length - k < m
      · have HR : Hid (getText l = .er 101) := Lib.hid (by rw [HG.out, if_neg h1, if_pos h2])
        have hdi : decide ((16384 : Int) < (m : Int)) = false := by simp; omega
        have hd2 : (n : Int) - (k : Int) < (m : Int) := by omega
        clear HG hX h1 h2
        go_enter Tryd.func21, Tryd.ntmps21
        go_wp2_with fail
        refine HI.out.mono ?_
        rintro e w1 ⟨rfl, hb1⟩
        have c2 := (HE.out.kept hb1).c101
        simp only [intV]
        go_wp2
        go_quiet (fail)
        all_goals go_wp2
        all_goals go_ret3
        all_goals exact ⟨by rw [HR.out]; rfl, by repeat (first | exact hb1 | (refine Hu.bdN ?_ _) | (refine Below.drew ?_))⟩
      · have hdi : decide ((16384 : Int) < (m : Int)) = false := by simp; omega
        have hd2 : ¬ (n : Int) - (k : Int) < (m : Int) := by omega
        have hkm : k + m ≤ n := by omega
        have hsl := fun W => slice_lh a n c (k : Int) ((k : Int) + (m : Int)) (by omega) (by omega) (by omega) m (c - k) (by omega) (by omega) k (by omega) W
        have HP := Lib.hid (fun W (hW : Sl W a n c l) => sl_part hW k m (by omega) _ rfl)
        obtain ⟨b, o, rfl⟩ := HS.out.some (by omega)
        have e0 := HS.out.cell (i := 0) (by omega)
        rw [Nat.add_zero] at e0
        have hg0 : l.getD 0 0 = l[0]'(by omega) := by rw [List.getD_eq_getElem?_getD, List.getElem?_eq_getElem (by omega)]; rfl
        rw [hg0] at HG
        have htop := top_u8 (l[0]'(by omega))
        have hlt0 := (l[0]'(by omega)).toNat_lt
        generalize l[0]'(by omega) = x at e0 HG htop hlt0
        clear hg0
        have hn0 : (0 : Int) < (n : Int) := by omega
        by_cases h3 : x.toNat < 128
        · have HR : Hid (getText l = .ok (⟨((l.drop k).take m).toArray⟩, k + m)) := Lib.hid (by rw [HG.out, if_neg h1, if_neg h2, if_pos h3])
          rw [if_neg (by omega)] at htop
          clear HG hX h1 h2 h3
          go_enter Tryd.func21, Tryd.ntmps21
          go_wp2_with fail
          refine HI.out.mono ?_
          rintro e w1 ⟨rfl, hb1⟩
          have e1 := (hb1.cell (p := ⟨b, o, none⟩) (Hu.cell_lt e0)).trans e0
          have hcv := (HP.out _ (HS.out.kept hb1)).conv
          simp only [intV]
          go_wp2
          go_ret3
          exact ⟨by rw [HR.out]; simp [textV], hb1⟩
        · rw [if_pos (by omega)] at htop
          rw [if_neg h1, if_neg h2, if_neg h3] at HG
          have HDE := Lib.hid (fun W (hW : Below w.heap.size w W) => decode_any (E 107) _ m (c - k) _ W (HP.out W (HS.out.kept hW)) (by omega) (HE.out.kept hW).c107)
          obtain ⟨ty, p, hx⟩ := hX 107
          have HX := Lib.hid hx
          clear hX h1 h2 h3 hx
          generalize hT : (l.drop k).take m = T at HG HDE
          clear hT
          go_enter Tryd.func21, Tryd.ntmps21
          go_wp2_with fail
          refine HI.out.mono ?_
          rintro e w1 ⟨rfl, hb1⟩
          have e1 := (hb1.cell (p := ⟨b, o, none⟩) (Hu.cell_lt e0)).trans e0
          simp only [intV]
          clear HI e0
          go_wp2_with fail
          refine (HDE.out _ hb1).mono ?_
          rintro e w2 ⟨hb2, hd⟩
          have hB2 := hb1.trans (hb2.mono hb1.size)
          cases hsy : saysText T with
          | none =>
            rw [hsy] at hd HG
            simp only at hd HG
            subst hd
            rw [HX.out]
            clear hsy HDE
            go_wp2
            go_ret3
            exact ⟨by rw [HG.out]; simp only [textV, HX.out]; rfl, hB2⟩
          | some t =>
            rw [hsy] at hd HG
            simp only at hd HG
            subst hd
            clear hsy HDE
            go_wp2
            go_ret3
            exact ⟨by rw [HG.out]; simp [textV], hB2⟩
end Go.Proofs.YtlkieeindnpidaaDoor
