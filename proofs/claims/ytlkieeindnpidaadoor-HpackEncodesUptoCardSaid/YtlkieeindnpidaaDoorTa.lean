/-
  CONTRACTS: the document's PutText and Text.
-/
import Derived.Test.YtlkieeindnpidaaDoorW
import Derived.Test.YtlkieeindnpidaaDoorHuU
import Derived.Test.YtlkieeindnpidaaDoorHuAll
namespace Go.Proofs.YtlkieeindnpidaaDoor
open Go.RowKit Tt Hu Hu.Hf

theorem putInt_huff {y : Nat} (hy : y ≤ 2147483647) : putInt 128 7 (y : Int) = pint 128 7 y := by
  unfold putInt
  rw [if_pos ⟨by decide, by decide, by omega, by omega, by decide, by decide, by decide⟩]
  rfl
theorem putInt_raw {y : Nat} (hy : y ≤ 2147483647) : putInt 0 7 (y : Int) = pint 0 7 y := by
  unfold putInt
  rw [if_pos ⟨by decide, by decide, by omega, by omega, by decide, by decide, by decide⟩]
  rfl
/-- The numbers of the faults that reading answers. -/
def Res.small' {α : Type} : Res α → Prop
  | .ok _ => True
  | .er c => 101 ≤ c ∧ c < 131
theorem more7_small' : ∀ (l : List UInt8) (acc k : Nat), (more7 acc k l).small'
  | [], acc, k => by unfold more7; split <;> (simp [Res.small'])
  | c :: l, acc, k => by
    unfold more7
    split
    · simp [Res.small']
    · split
      · exact more7_small' l _ _
      · split <;> simp [Res.small']
theorem getInt_small' (bt : Nat) (l : List UInt8) : (getInt bt l).small' := by
  cases l with
  | nil => simp [getInt, Res.small']
  | cons c l =>
    by_cases h : c.toNat % 2 ^ bt < 2 ^ bt - 1
    · rw [getInt_cons_lt h]
      trivial
    · rw [getInt_cons_ge h]
      exact more7_small' _ _ _

set_option maxRecDepth 100000 in
set_option maxHeartbeats 2000000 in
theorem dputText_any (s : ByteArray) (w : World) (hs : s.size ≤ 1048576) : Calls Tryd.prog 20 #[.string s] w (OwnOut w.heap.size (ptext s) w) := by
  have HSZ := Lib.hid (fun W => Hu.sizer_any s hs W)
  have HEN := Lib.hid (fun W => Hu.encoder_any s hs W)
  have hzz : (totN (str s) + 7) / 8 = hz s := rfl
  rw [hzz] at HSZ
  have HZE : Hid ((enc (str s)).length = hz s) := Lib.hid (enc_length _)
  have HPT : Hid (ptext s = if hz s < s.size then pint 128 7 (hz s) ++ enc (str s) else pint 0 7 s.size ++ str s) := Lib.hid rfl
  clear hzz
  generalize hz s = Z at HSZ HPT HZE
  by_cases hlt : Z < s.size
  · have hdc : decide (Z < s.size) = true := by simpa using hlt
    have HPU : Hid (ptext s = pint 128 7 Z ++ enc (str s)) := Lib.hid (by rw [HPT.out, if_pos hlt])
    have HI := Lib.hid (fun W => dput_any 128 7 (Z : Int) W (by omega))
    rw [putInt_huff (by omega)] at HI
    have h6 := pint_len (first := 128) (bits := 7) (n := Z) (by omega)
    generalize hP : pint 128 7 Z = P at h6 HPU HI
    clear hP
    go_enter Tryd.func20, Tryd.ntmps20
    go_wp2_with fail
    refine (HSZ.out _).mono ?_
    rintro e w' ⟨rfl, rfl⟩
    go_wp2_with fail
    refine (HI.out _).mono ?_
    rintro e w1 ⟨a1, N1, c1, rfl, hN1, ho1, hb1⟩
    have hz1 := hb1.size
    clear HI HSZ
    go_wp2_with fail
    refine (HEN.out _).mono ?_
    rintro e w2 ⟨a2, N2, c2, rfl, hN2, ho2, hb2⟩
    have hz2 := hb2.size
    have ho1' := ho1.kept hb2
    have hN := hN2.out
    rw [HZE.out] at hN
    subst hN
    clear HEN ho1
    go_wp2_with (at_builtin; (refine wp_append_bytes rfl _ _ rfl _ P (enc (str s)) rfl _ ho1' a2 _ c2 rfl (sl_own ho2) (by omega) (by omega) ?_); intro w3 ad3 N3 c3 hN3 hown3 hb3)
    go_ret
    exact ⟨_, _, _, rfl, by rw [HPU.out]; exact hN3, by rw [HPU.out]; exact hown3, hb1.trans ((hb2.mono hz1).trans hb3)⟩
  · have hdc : decide (Z < s.size) = false := by simpa using hlt
    have HPU : Hid (ptext s = pint 0 7 s.size ++ str s) := Lib.hid (by rw [HPT.out, if_neg hlt])
    have HI := Lib.hid (fun W => dput_any 0 7 (s.size : Int) W (by omega))
    rw [putInt_raw (by omega)] at HI
    have h6 := pint_len (first := 0) (bits := 7) (n := s.size) (by omega)
    generalize hP : pint 0 7 s.size = P at h6 HPU HI
    clear hP
    go_enter Tryd.func20, Tryd.ntmps20
    go_wp2_with fail
    refine (HSZ.out _).mono ?_
    rintro e w' ⟨rfl, rfl⟩
    go_wp2_with fail
    refine (HI.out _).mono ?_
    rintro e w1 ⟨a1, N1, c1, rfl, hN1, ho1, hb1⟩
    clear HI HSZ HEN
    go_wp2_with (at_builtin; (refine wp_append_string rfl _ _ rfl _ P rfl _ ho1 s rfl (by omega) (by have := hb1.size; omega) ?_); intro w3 ad3 N3 c3 hN3 hown3 hb3 hap3)
    go_ret
    exact ⟨_, _, _, rfl, by rw [HPU.out]; exact hN3, by rw [HPU.out]; exact hown3, hb1.trans hb3⟩

/-- What the document's Text answers. -/
def textD : Res (ByteArray × Nat) → Value
  | .ok (s, m) => .tuple #[.string s, .int .i64 (m : Int), .int .i64 0]
  | .er c => .tuple #[.string ⟨#[]⟩, .int .i64 0, .int .i64 (c : Int)]
set_option maxRecDepth 100000 in
set_option maxHeartbeats 4000000 in
theorem dtext_any (a : Option Addr) (n c : Nat) (l : List UInt8) (w : World) (hs : Sl w a n c l) (hn : n ≤ 1000000) :
    Calls Tryd.prog 22 #[.slice a n c] w fun e w' => e = .returned (textD (getText l)) ∧ Below w.heap.size w w' := by
  have hlen := hs.len
  have hcn := hs.le
  have hcm := hs.max
  unfold maxLen at hcm
  have HS := Lib.hid hs
  have HI := Lib.hid (dint_any 7 a n c l w (by omega) (by omega) hs)
  clear hs
  by_cases hn0 : n = 0
  · subst hn0
    have hl0 : l = [] := List.eq_nil_of_length_eq_zero hlen
    subst hl0
    clear HI
    go_enter Tryd.func22, Tryd.ntmps22
    go_wp2_with fail
    go_ret3
    exact ⟨rfl, Below.refl _ _⟩
  · have hnz : ((n : Int) == 0) = false := by rw [beq_eq_false_iff_ne]; omega
    cases hi : getInt 7 l with
    | er d =>
      rw [hi] at HI
      have HR : Hid (getText l = .er d) := Lib.hid (by unfold getText; rw [hi])
      have hd : 101 ≤ d := by
        have := getInt_small' 7 l
        rw [hi] at this
        exact this.1
      have hdz : ((d : Int) != 0) = true := by simp; omega
      clear hi
      go_enter Tryd.func22, Tryd.ntmps22
      go_wp2_with fail
      refine HI.out.mono ?_
      rintro e w1 ⟨rfl, hb1⟩
      simp only [intD]
      go_wp2_with fail
      go_ret3
      exact ⟨by rw [HR.out]; rfl, hb1⟩
    | ok q =>
      obtain ⟨m, k⟩ := q
      have hk := getInt_ok (by omega) hi
      rw [hi] at HI
      have HG : Hid (getText l = if 16384 < m then .er 102 else if l.length - k < m then .er 101
        else if (l.getD 0 0).toNat < 128 then .ok (⟨((l.drop k).take m).toArray⟩, k + m)
        else match saysText ((l.drop k).take m) with
          | some t => .ok (⟨t.toArray⟩, k + m)
          | none => .er 107) := Lib.hid (by unfold getText; rw [hi]; rfl)
      clear hi
      obtain ⟨hk1, hk2, hk3, hk4⟩ := hk
      by_cases h1 : 16384 < m
      · have HR : Hid (getText l = .er 102) := Lib.hid (by rw [HG.out, if_pos h1])
        clear HG
        go_enter Tryd.func22, Tryd.ntmps22
        go_wp2_with fail
        refine HI.out.mono ?_
        rintro e w1 ⟨rfl, hb1⟩
        simp only [intD]
        go_wp2_with fail
        go_ret3
        exact ⟨by rw [HR.out]; rfl, hb1⟩
      · by_cases h2 : l.length - k < m
        · have HR : Hid (getText l = .er 101) := Lib.hid (by rw [HG.out, if_neg h1, if_pos h2])
          have hd2 : (n : Int) - (k : Int) < (m : Int) := by omega
          clear HG
          go_enter Tryd.func22, Tryd.ntmps22
          go_wp2_with fail
          refine HI.out.mono ?_
          rintro e w1 ⟨rfl, hb1⟩
          simp only [intD]
          go_wp2_with fail
          go_ret3
          exact ⟨by rw [HR.out]; rfl, hb1⟩
        · have hd2 : ¬ (n : Int) - (k : Int) < (m : Int) := by omega
          have hkm : k + m ≤ n := by omega
          have hsl := fun W => slice_lh a n c (k : Int) ((k : Int) + (m : Int)) (by omega) (by omega) (by omega) m (c - k) (by omega) (by omega) k (by omega) W
          have HP := Lib.hid (fun W (hW : Sl W a n c l) => sl_part hW k m (by omega) _ rfl)
          obtain ⟨b, o, rfl⟩ := HS.out.some (by omega)
          have e0 := HS.out.cell (i := 0) (by omega)
          rw [Nat.add_zero] at e0
          have hg0 : l.getD 0 0 = l[0]'(by omega) := by rw [List.getD_eq_getElem?_getD, List.getElem?_eq_getElem (by omega)]; rfl
          rw [hg0] at HG
          have hlt0 := (l[0]'(by omega)).toNat_lt
          generalize l[0]'(by omega) = x at e0 HG hlt0
          clear hg0
          have hnn0 : (0 : Int) < (n : Int) := by omega
          by_cases h3 : x.toNat < 128
          · have HR : Hid (getText l = .ok (⟨((l.drop k).take m).toArray⟩, k + m)) := Lib.hid (by rw [HG.out, if_neg h1, if_neg h2, if_pos h3])
            clear HG
            go_enter Tryd.func22, Tryd.ntmps22
            go_wp2_with fail
            refine HI.out.mono ?_
            rintro e w1 ⟨rfl, hb1⟩
            have e1 := (hb1.cell (p := ⟨b, o, none⟩) (Hu.cell_lt e0)).trans e0
            have hcv := (HP.out _ (HS.out.kept hb1)).conv
            simp only [intD]
            go_wp2_with fail
            go_ret3
            exact ⟨by rw [HR.out]; simp [textD], hb1⟩
          · rw [if_neg h1, if_neg h2, if_neg h3] at HG
            have HDE := Lib.hid (fun W (hW : Below w.heap.size w W) => Hu.decoder_any _ m (c - k) _ W (HP.out W (HS.out.kept hW)) (by omega))
            generalize hT : (l.drop k).take m = T at HG HDE
            clear hT
            go_enter Tryd.func22, Tryd.ntmps22
            go_wp2_with fail
            refine HI.out.mono ?_
            rintro e w1 ⟨rfl, hb1⟩
            have e1 := (hb1.cell (p := ⟨b, o, none⟩) (Hu.cell_lt e0)).trans e0
            simp only [intD]
            clear HI e0
            go_wp2_with fail
            refine (HDE.out _ hb1).mono ?_
            rintro e w2 ⟨hb2, hd⟩
            have hB2 := hb1.trans (hb2.mono hb1.size)
            cases hsy : saysText T with
            | none =>
              rw [hsy] at hd HG
              simp only at hd HG
              subst hd
              clear hsy HDE
              go_wp2_with fail
              go_ret3
              exact ⟨by rw [HG.out]; rfl, hB2⟩
            | some t =>
              rw [hsy] at hd HG
              simp only at hd HG
              subst hd
              clear hsy HDE
              go_wp2_with fail
              go_ret3
              exact ⟨by rw [HG.out]; simp [textD], hB2⟩
end Go.Proofs.YtlkieeindnpidaaDoor
