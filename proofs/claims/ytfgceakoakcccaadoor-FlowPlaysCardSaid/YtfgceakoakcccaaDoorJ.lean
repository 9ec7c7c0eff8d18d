/-
  THE LAW FlowPlays: its walk.
-/
import Derived.Test.YtfgceakoakcccaaDoorI
import Derived.Deep.CutBlock
namespace Go.Proofs.YtfgceakoakcccaaDoor
open Go.RowKit

theorem win_le {B A X : Nat} (h1 : B ≤ A) (h2 : B ≤ X) (k : Nat) : B ≤ win A X k := by unfold win; split <;> omega
/-- The rounds over the calls. -/
def PlR (n lb A X P : Nat) (vr vt : Value) (w : World) (s17 : Value) (wr : World) : Prop := ∃ (i : Nat) (L : Nat → Int), s17 = .int .i64 (i : Int) ∧ i ≤ n ∧ SG wr lb A X P vr vt L L ∧ Below w.heap.size w wr
/-- Behind the switch. -/
def SwR (lb A X P : Nat) (vr vt : Value) (w : World) (en ew : Addr) (s21 s22 : Value) (wx : World) : Prop := ∃ (c : Nat) (L : Nat → Int), s21 = .int .i64 (cd c) ∧ s22 = erV en ew c ∧ SG wx lb A X P vr vt L L ∧ Below w.heap.size w wx
set_option maxRecDepth 100000 in
set_option maxHeartbeats 8000000 in
theorem plays_any (es : Nat → Addr) (a b : Int) (a2 : Option Addr) (n2 c2 : Nat) (L2 : List Cal) (ask : Int) (w : World) (S : Hu.Sent w es) (h1 : Cs w a2 n2 L2) :
    Calls Tryd.prog 3 #[.int .i64 a, .int .i64 b, .slice a2 n2 c2, .int .i64 ask] w fun e w' => e = .returned (.bool true) ∧ Below w.heap.size w w' := by
  have hE : Er w (es 19) (es 12) := ⟨S.cell 19 _ rfl, S.cell 12 _ rfl⟩
  have g1 := cell_lt hE.n
  have g2 := cell_lt hE.w
  simp only at g1 g2
  have HF := Lib.hid (first_any w _ _ hE)
  have HE := Lib.hid (fun w' (h : Below w.heap.size w w') => hE.below h)
  have HS := Lib.hid S
  have H1 := Lib.hid h1
  have HL1 := Lib.hid h1.len
  clear hE h1 S
  generalize hen : es 19 = en at HF HE
  generalize hew : es 12 = ew at HF HE
  go_enter Tryd.func3, Tryd.ntmps3
  go_wp2_with fail
  refine HF.out.mono ?_
  rintro e w1 ⟨rfl, hb1⟩
  have HB1 := Lib.hid hb1
  clear hb1 HF
  by_cases hn : 200 < n2
  · have hd : decide ((200 : Int) < (n2 : Int)) = true := by simp; omega
    go_wp2_with fail
    go_ret
    exact ⟨rfl, HB1.out⟩
  have hd : decide ((200 : Int) < (n2 : Int)) = false := by simp; omega
  have HN := Lib.hid (new_gen a w1 en ew (HE.out w1 HB1.out))
  have HBA := Lib.hid (fun W => bad_any a W)
  have HBB := Lib.hid (fun W => bad_any b W)
  go_wp2_with fail
  refine HN.out.mono ?_
  rintro e w2 ⟨pa, ea, rfl, hb2, f1, f2, f5, f6, hA2⟩
  have hB2 := HB1.out.trans (hb2.mono HB1.out.size)
  have hwA := HB1.out.size
  generalize w1.heap.size = A at hA2 hwA
  have HM := Lib.hid (new_gen b w2 en ew (HE.out w2 hB2))
  have HA2 := Lib.hid hA2
  have HB2 := Lib.hid hB2
  have HF1 := Lib.hid f1
  have HF2 := Lib.hid f2
  have HF5 := Lib.hid f5
  have HF6 := Lib.hid f6
  clear HN hb2 hB2 hA2 HB1 f1 f2 f5 f6
  go_wp2_with fail
  refine HM.out.mono ?_
  rintro e w3 ⟨pb, eb, rfl, hb3, f3, f4, f7, f8, hX3⟩
  have HB3 := Lib.hid (HB2.out.trans (hb3.mono HB2.out.size))
  have hwX := HB2.out.size
  have HAX := Lib.hid (fun (h : ¬ (a < 0 ∨ 2147483647 < a)) => (HA2.out h).2.2.lt)
  have HA3 := Lib.hid (fun (h : ¬ (a < 0 ∨ 2147483647 < a)) => (⟨(HA2.out h).1, (HA2.out h).2.1, (HA2.out h).2.2.below hb3⟩ : _ ∧ _ ∧ _))
  generalize w2.heap.size = X at hX3 hwX HAX
  have HX3 := Lib.hid hX3
  have f1 := HF1.out
  have f2 := HF2.out
  have f5 := HF5.out
  have f6 := HF6.out
  clear HM hb3 HB2 HA2 hX3 HF1 HF2 HF5 HF6
  generalize hpa : decide (a < 0 ∨ 2147483647 < a) = qa at HBA f1 f2
  generalize hpb : decide (b < 0 ∨ 2147483647 < b) = qb at HBB f3 f4
  have hq1 := fun W => neq_bool qa W
  have hq2 := fun W => neq_bool qb W
  have HQ := Lib.hid (⟨f1, f2, f3, f4, f5, f6, f7, f8⟩ : _ ∧ _ ∧ _ ∧ _ ∧ _ ∧ _ ∧ _ ∧ _)
  clear f1 f2 f3 f4 f5 f6 f7 f8
  go_upto_region 7 with fail
  go_cut [76] from 47 to 76 (fun s76 wx => s76 = .bool false ∧ wx = w3.drew)
  case first =>
    as_aux_lemma =>
      obtain ⟨f1, f2, f3, f4, f5, f6, f7, f8⟩ := HQ.out
      go_region_held3 (fun w' => Below w3.heap.size w3 w') (first | assumption | exact Below.refl _ _ | exact Below.drew (Below.refl _ _) | (refine Below.drew ?_; assumption)) (first | (go_at_call 8; refine (HBA.out _).mono ?_; rintro e w' ⟨rfl, rfl⟩) | (go_at_call 8; refine (HBB.out _).mono ?_; rintro e w' ⟨rfl, rfl⟩))
      go_wp2_with fail
      go_meet
      exact ⟨rfl, rfl⟩
  case rest =>
  obtain ⟨rfl, rfl⟩ := hcut
  have HBD := Lib.hid (HB3.out.drew)
  have HA4 := Lib.hid (fun (h : ¬ (a < 0 ∨ 2147483647 < a)) => (⟨(HA3.out h).1, (HA3.out h).2.1, (HA3.out h).2.2.blk rfl⟩ : _ ∧ _ ∧ Wi w3.drew A a))
  have HX4 := Lib.hid (fun (h : ¬ (b < 0 ∨ 2147483647 < b)) => (⟨(HX3.out h).1, (HX3.out h).2.1, (HX3.out h).2.2.blk rfl⟩ : _ ∧ _ ∧ Wi w3.drew X b))
  clear HQ hq1 hq2 HB3 HA3 HX3
  generalize w3.drew = w4 at HBD HA4 HX4 ⊢
  cases qa with
  | true =>
    go_wp2_with fail
    refine (HBA.out _).mono ?_
    rintro e w' ⟨rfl, rfl⟩
    go_wp2_with fail
    go_ret
    exact ⟨rfl, HBD.out⟩
  | false =>
  cases qb with
  | true =>
    go_wp2_with fail
    refine (HBA.out _).mono ?_
    rintro e w' ⟨rfl, rfl⟩
    go_wp2_with fail
    refine (HBB.out _).mono ?_
    rintro e w' ⟨rfl, rfl⟩
    go_wp2_with fail
    go_ret
    exact ⟨rfl, HBD.out⟩
  | false =>
  have hna := of_decide_eq_false hpa
  have hnb := of_decide_eq_false hpb
  obtain ⟨rfl, rfl, ha4⟩ := HA4.out hna
  obtain ⟨rfl, rfl, hx4⟩ := HX4.out hnb
  have hAX := HAX.out hna
  have hoa : Ok a := by unfold Ok; omega
  have hob : Ok b := by unfold Ok; omega
  have HBO := Lib.hid (both_any A X w4 ha4 hx4)
  rw [show both A X = [A, X] by unfold both; rw [if_neg (by omega)]] at HBO
  have HA5 := Lib.hid ha4
  have HX5 := Lib.hid hx4
  have hX4 := hx4.lt
  clear HA4 HX4 ha4 hx4 hna hnb HAX
  go_wp2_with fail
  refine (HBA.out _).mono ?_
  rintro e w' ⟨rfl, rfl⟩
  go_wp2_with fail
  refine (HBB.out _).mono ?_
  rintro e w' ⟨rfl, rfl⟩
  go_wp2_with fail
  refine HBO.out.mono ?_
  rintro e w5 ⟨rfl, ⟨vr, vt, hp⟩, hb5⟩
  have hB5 := HBD.out.trans (hb5.mono HBD.out.size)
  have ha5 := HA5.out.below hb5
  have hx5 := HX5.out.below hb5
  have hP5 := hp.lt
  generalize w4.heap.size = P at hp hX4 hP5 ⊢
  clear HBO hb5 HA5 HX5 HBD HBA HBB hpa hpb
  have hb6 : Below w5.heap.size w5 (w5.alloc (.cells #[.int .i64 a, .int .i64 b] 3)) := (Below.refl _ w5).alloc (Nat.le_refl _) _
  have hG : SG (w5.alloc (.cells #[.int .i64 a, .int .i64 b] 3)) w5.heap.size A X P vr vt (fun k => if k = 0 then a else b) (fun k => if k = 0 then a else b) := by
    refine ⟨fun k hk => ?_, fun k hk => ?_, fun k hk => ?_, fun k => by simp, hp.below hb6, hAX, hX4, hP5, fun h => ?_, fun h => ?_⟩
    · unfold win
      split
      · exact ha5.below hb6
      · exact hx5.below hb6
    · split
      · exact hoa
      · exact hob
    · have : k = 0 ∨ k = 1 := by omega
      rcases this with rfl | rfl <;> simp
    · have := (World.ownsRow.lt hp.r _ h).2
      omega
    · have := (World.ownsRow.lt hp.t _ h).2
      omega
  have hB6 := hB5.trans (hb6.mono hB5.size)
  have hLb : w.heap.size ≤ w5.heap.size := hB5.size
  clear hb6 ha5 hx5 hp hB5
  go_upto_region 15 with fail
  generalize w5.alloc (.cells #[.int .i64 a, .int .i64 b] 3) = w6 at hG hB6 ⊢
  generalize w5.heap.size = lb at hG hLb hP5 ⊢
  go_wp2_with fail
  go_loopw [17] (fun s17 wr => PlR n2 lb A X P vr vt w s17 wr) (fun s17 _ => n2 - (intOf s17).toNat)
  case atStart => exact ⟨0, _, rfl, by omega, hG, hB6⟩
  case round =>
    clear hG hB6 hoa hob
    obtain ⟨i, L, rfl, hin, hG, hB⟩ := hrel
    by_cases hlt : i < n2
    · obtain ⟨bb, o, rfl, e0, e1, e2⟩ := (H1.out.kept hB).row i (by rw [HL1.out]; exact hlt)
      generalize hC : L2[i]'(by rw [HL1.out]; exact hlt) = C at e0 e1 e2
      clear hC
      have hia : (0 : Int) ≤ (i : Int) := by omega
      have hib : (i : Int) < (n2 : Int) := by omega
      obtain ⟨ck, cn, ct⟩ := C
      simp only at e0 e1 e2
      go_upto_if 104 with fail
      go_cut [18, 19] from 93 to 245 (fun s18 s19 wx => ∃ k : Nat, k < 2 ∧ s18 = .int .i64 (k : Int) ∧ s19 = .pointer (some ⟨win A X k, 0, none⟩) ∧ wr = wx)
      case first =>
        as_aux_lemma =>
          cases ct with
          | true =>
            go_wp2_with fail
            go_meet
            exact ⟨1, by decide, rfl, rfl, rfl⟩
          | false =>
            go_wp2_with fail
            go_meet
            exact ⟨0, by decide, rfl, rfl, rfl⟩
      case rest =>
      obtain ⟨k, hk, rfl, rfl, rfl⟩ := hcut
      clear e2
      have hka : (0 : Int) ≤ (k : Int) := by omega
      have hkb : (k : Int) < 2 := by omega
      have lk := hG.lc k hk
      have zk := hG.z k
      have l0 := hG.lc 0 (by decide)
      have l1 := hG.lc 1 (by decide)
      have z0 := hG.z 0
      have z1 := hG.z 1
      go_upto_block 2 with fail
      go_cut [21, 22] from 93 to 245 (fun s21 s22 wx => SwR lb A X P vr vt w en ew s21 s22 wx)
      case first =>
        as_aux_lemma =>
          by_cases hk1 : ck = 1
          · have hke : ((ck : Int) == 1) = true := by rw [hk1]; rfl
            clear hk1
            have HD := Lib.hid (dtake_any (L k) cn (hG.ok k hk) wr)
            have hG1 := hG.setc k hk (tkM (L k) cn).1
            have hB1 : Below w.heap.size w (wr.setCell ⟨lb, k, none⟩ (.int .i64 (tkM (L k) cn).1)) := hB.setCell hLb _
            have HT := Lib.hid (take_any (hG1.wi k hk) (hG1.ok k hk) cn en ew (HE.out _ hB1))
            have HG1 := Lib.hid hG1
            have HB1 := Lib.hid hB1
            clear hG hB hG1 hB1
            go_wp2_with fail
            refine HD.out.mono ?_
            rintro e w' ⟨rfl, rfl⟩
            go_wp2_with fail
            refine HT.out.mono ?_
            rintro e w5 ⟨rfl, h5, k5⟩
            go_wp2_with fail
            go_meet
            exact ⟨_, _, rfl, rfl, HG1.out.setw k hk _ (tk_ok (HG1.out.ok k hk)) h5 k5, HB1.out.trans (k5.below (by simpa using win_le hwA hwX k) HB1.out.size)⟩
          have hke : ((ck : Int) == 1) = false := by rw [beq_eq_false_iff_ne]; exact hk1
          clear hk1
          by_cases hk2 : ck = 2
          · have hke2 : ((ck : Int) == 2) = true := by rw [hk2]; rfl
            clear hk2
            have HD := Lib.hid (dgive_any (L k) cn (hG.ok k hk) wr)
            have hG1 := hG.setc k hk (gvM (L k) cn).1
            have hB1 : Below w.heap.size w (wr.setCell ⟨lb, k, none⟩ (.int .i64 (gvM (L k) cn).1)) := hB.setCell hLb _
            have HT := Lib.hid (give_any (hG1.wi k hk) (hG1.ok k hk) cn en ew (HE.out _ hB1))
            have HG1 := Lib.hid hG1
            have HB1 := Lib.hid hB1
            clear hG hB hG1 hB1
            go_wp2_with fail
            refine HD.out.mono ?_
            rintro e w' ⟨rfl, rfl⟩
            go_wp2_with fail
            refine HT.out.mono ?_
            rintro e w5 ⟨rfl, h5, k5⟩
            go_wp2_with fail
            go_meet
            exact ⟨_, _, rfl, rfl, HG1.out.setw k hk _ (gv_ok (HG1.out.ok k hk)) h5 k5, HB1.out.trans (k5.below (by simpa using win_le hwA hwX k) HB1.out.size)⟩
          have hke2 : ((ck : Int) == 2) = false := by rw [beq_eq_false_iff_ne]; exact hk2
          clear hk2
          by_cases hk3 : ck = 3
          · have hke3 : ((ck : Int) == 3) = true := by rw [hk3]; rfl
            clear hk3
            have HD := Lib.hid (dshift_any (L k) cn (hG.ok k hk) wr)
            have hG1 := hG.setc k hk (shM (L k) cn).1
            have hB1 : Below w.heap.size w (wr.setCell ⟨lb, k, none⟩ (.int .i64 (shM (L k) cn).1)) := hB.setCell hLb _
            have HT := Lib.hid (shift_any (hG1.wi k hk) (hG1.ok k hk) cn en ew (HE.out _ hB1))
            have HG1 := Lib.hid hG1
            have HB1 := Lib.hid hB1
            clear hG hB hG1 hB1
            go_wp2_with fail
            refine HD.out.mono ?_
            rintro e w' ⟨rfl, rfl⟩
            go_wp2_with fail
            refine HT.out.mono ?_
            rintro e w5 ⟨rfl, h5, k5⟩
            go_wp2_with fail
            go_meet
            exact ⟨_, _, rfl, rfl, HG1.out.setw k hk _ (sh_ok (HG1.out.ok k hk)) h5 k5, HB1.out.trans (k5.below (by simpa using win_le hwA hwX k) HB1.out.size)⟩
          have hke3 : ((ck : Int) == 3) = false := by rw [beq_eq_false_iff_ne]; exact hk3
          clear hk3
          have o1 := hG.o1
          have o2 := hG.o2
          have HD0 := Lib.hid (dtake_any (L 0) cn (hG.ok 0 (by decide)) wr)
          have HD1 := Lib.hid (dtake_any (L 1) cn (hG.ok 1 (by decide)) wr)
          by_cases hpt : ptM [L 0, L 1] cn = 0
          · obtain ⟨t0, t1⟩ := (pt_max (L 0) (L 1) cn).2.1 hpt
            have hok0 := tk_ok (n := cn) (hG.ok 0 (by decide))
            have hok1 := tk_ok (n := cn) (hG.ok 1 (by decide))
            rw [t0] at HD0 hok0
            rw [t1] at HD1 hok1
            simp only [show cd 0 = 0 from rfl] at HD0 HD1
            have hG1 := (hG.setc 0 (by decide) (L 0 - cn)).setc 1 (by decide) (L 1 - cn)
            have hB1 : Below w.heap.size w ((wr.setCell ⟨lb, 0, none⟩ (.int .i64 (L 0 - cn))).setCell ⟨lb, 1, none⟩ (.int .i64 (L 1 - cn))) := (hB.setCell hLb _).setCell hLb _
            have HT := Lib.hid (take2 hG1.p (by omega) (by omega) (by omega) (hG1.wi 0 (by decide)) (hG1.wi 1 (by decide)) (hG1.ok 0 (by decide)) (hG1.ok 1 (by decide)) cn en ew (HE.out _ hB1) w.heap.size g1 g2 hwA hwX)
            rw [hpt] at HT
            have HG1 := Lib.hid hG1
            have HB1 := Lib.hid hB1
            clear hG hB hG1 hB1
            go_wp2_with fail
            refine HD0.out.mono ?_
            rintro e w' ⟨rfl, rfl⟩
            go_wp2_with fail
            refine HD1.out.mono ?_
            rintro e w' ⟨rfl, rfl⟩
            go_wp2_with fail
            refine HT.out.mono ?_
            rintro e w5 ⟨rfl, h5, h6, k5⟩
            simp only [↓reduceIte] at h5 h6
            go_wp2_with fail
            go_meet
            exact ⟨0, fun j => if j = 0 then L 0 - cn else L 1 - cn, rfl, rfl, (HG1.out.setp _ _ hok0 hok1 h5 h6 k5).congr _ _ rfl rfl rfl rfl, HB1.out.trans (k5.below (by intro b hb; simp at hb; omega) HB1.out.size)⟩
          · have hcc := cd_cases (L 0) (L 1) cn hpt
            have HT := Lib.hid (take2 hG.p (by omega) (by omega) (by omega) (hG.wi 0 (by decide)) (hG.wi 1 (by decide)) (hG.ok 0 (by decide)) (hG.ok 1 (by decide)) cn en ew (HE.out _ hB) w.heap.size g1 g2 hwA hwX)
            rw [if_neg hpt, if_neg hpt] at HT
            have HG1 := Lib.hid hG
            have HB1 := Lib.hid hB
            clear hG hB
            generalize hc0 : cd (tkM (L 0) cn).2 = q0 at HD0 hcc
            generalize hc1 : cd (tkM (L 1) cn).2 = q1 at HD1 hcc
            generalize (tkM (L 0) cn).1 = r0 at HD0
            generalize (tkM (L 1) cn).1 = r1 at HD1
            clear hc0 hc1
            rcases hcc with ⟨rfl, rfl, hcq⟩ | ⟨rfl, rfl, hcq⟩ | ⟨rfl, rfl, hcq⟩ | ⟨rfl, rfl, hcq⟩
            all_goals
              go_wp2_with fail
              refine HD0.out.mono ?_
              rintro e w' ⟨rfl, rfl⟩
              go_wp2_with fail
              refine HD1.out.mono ?_
              rintro e w' ⟨rfl, rfl⟩
              go_wp2_with fail
              refine HT.out.mono ?_
              rintro e w5 ⟨rfl, h5, h6, k5⟩
              go_wp2_with fail
              go_meet
              exact ⟨ptM [L 0, L 1] cn, fun j => if j = 0 then L 0 else L 1, by rw [hcq], rfl, (HG1.out.setp _ _ (HG1.out.ok 0 (by decide)) (HG1.out.ok 1 (by decide)) h5 h6 k5).congr _ _ rfl rfl rfl rfl, HB1.out.trans (k5.below (by intro b hb; simp at hb; omega) HB1.out.size)⟩
      case rest =>
      obtain ⟨c, M, rfl, rfl, hG8, hB8⟩ := hcut
      obtain ⟨w7, rfl⟩ : ∃ w7 : World, w7 = wc := ⟨_, rfl⟩
      clear hG hB lk zk l0 l1 z0 z1 e0 e1 hka hkb
      have hG9 := hG8.below (w' := w7.drew) ((Below.refl _ w7).drew)
      have hB9 := hB8.drew
      have m0 := hG9.lc 0 (by decide)
      have m1 := hG9.lc 1 (by decide)
      have HQ := Lib.hid (⟨m0, m1, hG9, hB9⟩ : _ ∧ _ ∧ _ ∧ _)
      clear hG8 hB8 m0 m1 hG9 hB9
      have hmn : (if rmM (M 1) ask < rmM (M 0) ask then rmM (M 1) ask else rmM (M 0) ask) = rmL [M 0, M 1] ask := by
        rw [rm_two]
        unfold rmM
        split <;> omega
      have HMN := Lib.hid hmn
      clear hmn
      go_upto_region 43 with fail
      go_cut [27] from 93 to 245 (fun s27 wx => s27 = .int .i64 (rmL [M 0, M 1] ask) ∧ wx = w7.drew)
      case first =>
        as_aux_lemma =>
          obtain ⟨m0, m1, hG9, hB9⟩ := HQ.out
          go_region_held3 (fun w' => w'.cell? ⟨lb, 0, none⟩ = some (.int .i64 (M 0)) ∧ w'.cell? ⟨lb, 1, none⟩ = some (.int .i64 (M 1)))
            (first | exact ⟨m0, m1⟩ | (refine ⟨?_, ?_⟩ <;> assumption)) (first | (go_at_call 17; refine (droom_any _ _ _).mono ?_; rintro e w' ⟨rfl, rfl⟩))
          rw [HMN.out]
          go_wp2_with fail
          go_meet
          exact ⟨rfl, rfl⟩
      case rest =>
      obtain ⟨rfl, rfl⟩ := hcut
      generalize w7.drew = w8 at HQ ⊢
      have HIS : Hid (∀ W, SG W lb A X P vr vt M M → Below w.heap.size w W → Calls Tryd.prog 18 #[erV en ew c, .int .i64 (cd c)] W fun e w' => e = .returned (.bool true) ∧ w'.cell? ⟨lb, 0, none⟩ = some (.int .i64 (M 0)) ∧ w'.cell? ⟨lb, 1, none⟩ = some (.int .i64 (M 1)) ∧ SG w' lb A X P vr vt M M ∧ Below w.heap.size w w') := by
        refine Lib.hid (fun W hg hb => ?_)
        have hs := seen_of (HS.out.kept hb) c
        rw [hen, hew] at hs
        refine (Hu.is_seen _ _ (cd c) W hs).mono ?_
        rintro e w' ⟨rfl, hb'⟩
        have hg' := hg.below hb'
        exact ⟨by simp, hg'.lc 0 (by decide), hg'.lc 1 (by decide), hg', hb.trans (hb'.mono hb.size)⟩
      have hQ2 : Hid (w8.drew.cell? ⟨lb, 0, none⟩ = some (.int .i64 (M 0)) ∧ w8.drew.cell? ⟨lb, 1, none⟩ = some (.int .i64 (M 1)) ∧ SG w8.drew lb A X P vr vt M M ∧ Below w.heap.size w w8.drew) := by
        have hg' := HQ.out.2.2.1.below (w' := w8.drew) ((Below.refl _ w8).drew)
        exact Lib.hid ⟨hg'.lc 0 (by decide), hg'.lc 1 (by decide), hg', HQ.out.2.2.2.drew⟩
      go_upto_region 44 with fail
      go_cut [245] from 93 to 245 (fun s245 wx => s245 = .bool false ∧ SG wx lb A X P vr vt M M ∧ Below w.heap.size w wx)
      case first =>
        as_aux_lemma =>
-- BEGIN
          obtain ⟨m0, m1, hG9, hB9⟩ := hQ2.out
          clear HQ hQ2 HMN HE HS H1
          go_region_held3 (fun w' => w'.cell? ⟨lb, 0, none⟩ = some (.int .i64 (M 0)) ∧ w'.cell? ⟨lb, 1, none⟩ = some (.int .i64 (M 1)) ∧ SG w' lb A X P vr vt M M ∧ Below w.heap.size w w')
            (first | exact ⟨m0, m1, hG9, hB9⟩ | (refine ⟨?_, ?_, ?_, ?_⟩ <;> assumption))
            (first
              | (go_at_call 18; refine (HIS.out _ (by assumption) (by assumption)).mono ?_; rintro e w' ⟨rfl, q0, q1, q2, q3⟩)
              | (go_at_call 19; first | (refine (SG.left0 (by assumption)).mono ?_; rintro e w' ⟨rfl, rfl⟩) | (refine (SG.left1 (by assumption)).mono ?_; rintro e w' ⟨rfl, rfl⟩))
              | (go_at_call 20; refine (SG.room0 (by assumption) _).mono ?_; rintro e w' ⟨rfl, rfl⟩)
              | (go_at_call 17; refine (droom_any _ _ _).mono ?_; rintro e w' ⟨rfl, rfl⟩)
              | (go_at_call 21; refine (SG.proom (by assumption) _).mono ?_; rintro e w' ⟨rfl, rfl⟩))
          all_goals
            rename_i hSS
            have hX := hSS.2.2
            clear hSS
            go_wp2_with fail
            go_meet
            exact ⟨rfl, hX⟩
-- END
      case rest =>
      obtain ⟨rfl, hG, hB⟩ := hcut
      go_wp2_with fail
      exact ⟨⟨i + 1, M, by go_num, by omega, hG, hB⟩, by simp [intOf]; omega⟩
    · have hge : ¬ (i : Int) < (n2 : Int) := by omega
      go_wp2_with fail
      go_ret
      exact ⟨rfl, hB⟩
end Go.Proofs.YtfgceakoakcccaaDoor
