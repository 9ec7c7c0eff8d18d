/-
  CONTRACTS: groupBody, by induction on how many groups more may stand in one another.
-/
import Derived.Test.YtclnmajjkchfmaaDoorH
namespace Go.Proofs.YtclnmajjkchfmaaDoor
open Go.RowKit Wr

abbrev bod0 : Obj := .cells #[.int .u64 0, .slice none 0 0, .int .i64 0] 106

set_option maxHeartbeats 1000000 in
theorem group_zero (ea : Nat → Addr) (w0 : World) (mb : Nat) (E0 : Env w0 ea) : GroupSaid ea w0 mb 0 32 := by
  intro w a n c l f hB hs0
  have E := E0.kept hB
  have hg1 : (7 : Nat) < w.heap.size := cell_lt E.e105
  have hg2 : ¬ (7 : Nat) = w.heap.size := by omega
  have hg3 : ¬ w.heap.size = (7 : Nat) := by omega
  have h1 := E.e105
  have h1' := ((E.alloc bod0)).e105
  rw [body3z]
  have HB := Lib.hid hB; clear hB
  show Calls Tryd.prog 69 #[.map (some mb), .slice a n c, .int .i64 (f : Int), .int .i64 32] w _
  go_enter Tryd.func69, Tryd.ntmps69
  go_wp2
  go_region
  all_goals (try go_wp2)
  all_goals refine bodyPost_ret (v := .tuple #[.agg #[.int .u64 0, .slice none 0 0, .int .i64 0], errV ea 105]) (by simp [results, Tryd.results69, go_sem]) rfl ?_
  all_goals refine ⟨?_, rfl⟩
  all_goals (repeat (first | exact Below.refl _ _ | assumption | (refine Below.setCell ?_ (by simp) _) | (refine bdN ?_ _) | (refine Below.drew ?_) | (refine Below.alloc ?_ (by simp) _)))

/-- The region's calls leave: the round's own facts. -/
def Rel (ea : Nat → Addr) (d f : Nat) (l : List UInt8) (w0 W0 : World) (B : Nat) (i : Nat) (wr : World) : Prop :=
  i ≤ l.length ∧ (∃ fuel, l.length + 1 ≤ fuel + i ∧ grp (body d) f l (l.length + 1) 0 = grp (body d) f l fuel i) ∧ Below w0.heap.size w0 wr ∧ Below (B + 1) W0 wr

set_option maxRecDepth 100000 in
set_option maxHeartbeats 16000000 in
theorem group_succ (ea : Nat → Addr) (w0 : World) (mb b8 b4 : Nat) (E0 : Env w0 ea) (R0 : Readers w0 mb b8 b4) (d depth : Nat) (hd : depth < 32) (hg : GroupSaid ea w0 mb d (depth + 1)) : GroupSaid ea w0 mb (d + 1) depth := by
  intro w a n c l f hB hs0
  have hz := hB.size
  have hlen := hs0.len
  have hle := hs0.le
  have hnine := hs0.nine
  have hgr := body3s d l f
  generalize body (d + 1) 3 l f = res at hgr
  have HR := Lib.hid hgr; clear hgr
  have hB1 := hB.alloc hz bod0
  have HB := Lib.hid hB; clear hB
  have hk : ∀ i v, (#[.int .u64 0, .slice none 0 0, .int .i64 0] : Array Value)[i]? = some v → (w.alloc bod0).cell? ⟨w.heap.size, i, none⟩ = some v := by intro i v h; rw [← h]; simp
  have hkf : ∀ i, (w.alloc bod0).frozen? ⟨w.heap.size, i, none⟩ = false := by intro i; simp
  have hS0 : (w.alloc bod0).heap.size = w.heap.size + 1 := by simp
  have hBw : Below w.heap.size w (w.alloc bod0) := (Below.refl _ _).alloc (Nat.le_refl _) _
  go_enter Tryd.func69, Tryd.ntmps69
  go_wp2
  generalize w.alloc bod0 = W0 at hB1 hk hkf hS0 hBw ⊢
  have HZ0 := Lib.hid hS0; clear hS0
  go_loopw [10] (fun s10 wr => ∃ i : Nat, s10 = .int .i64 i ∧ Rel ea d f l w0 W0 w.heap.size i wr)
    (fun s10 _ => l.length + 1 - (intOf s10).toNat)
  case atStart => exact ⟨0, rfl, by omega, ⟨l.length + 1, by omega, rfl⟩, hB1, Below.refl _ _⟩
  case round =>
    obtain ⟨i, rfl, hi, ⟨fuel, hfu, hgp⟩, hBr, hB2⟩ := hrel
    have hsl := fun W => slice_l a n c (i : Int) (by omega) (by omega) (n - i) (c - i) (by omega) (by omega) i (by omega) W
    have hsub : Sl w0 (partAt a c i) (n - i) (c - i) (l.drop i) := sl_part hs0 i (n - i) (by omega) _ (by rw [List.take_of_length_le (by simp; omega)])
    obtain ⟨fuel', rfl⟩ : ∃ q, fuel = q + 1 := ⟨fuel - 1, by omega⟩
    have hzr := hB2.size
    have hzr0 := hBr.size
    have k0 := (hB2.cell (p := ⟨w.heap.size, 0, none⟩) (by simp)).trans (hk 0 (.int .u64 0) rfl)
    have k1 := (hB2.cell (p := ⟨w.heap.size, 1, none⟩) (by simp)).trans (hk 1 (.slice none 0 0) rfl)
    have k2 := (hB2.cell (p := ⟨w.heap.size, 2, none⟩) (by simp)).trans (hk 2 (.int .i64 0) rfl)
    have kf : ∀ i, wr.frozen? ⟨w.heap.size, i, none⟩ = false := fun i => (hB2.frozen (p := ⟨w.heap.size, i, none⟩) (by simp)).trans (hkf i)
    have hBx : Below w.heap.size w wr := hBw.trans (hB2.mono (by omega))
    cases ht : readTag (l.drop i) with
    | er x =>
      have HG : Hid (res = .er x) := Lib.hid (by rw [HR.out, hgp, grp, ht])
      clear hk hkf hgp
      have hlt : w.heap.size < wr.heap.size := cell_lt k0
      go_wp2_with fail
      refine (readTag_no ea _ _ _ _ _ (hsub.kept hBr) (E0.kept hBr) x ht).mono ?_
      clear ht
      rintro e w' ⟨rfl, nq, rfl⟩
      go_wp2_with fail
      refine bodyPost_ret (v := .tuple #[.agg #[.int .u64 0, .slice none 0 0, .int .i64 0], errV ea x]) (by simp [results, Tryd.results69, go_sem, k0, k1, k2]) rfl ?_
      refine ⟨?_, by rw [HG.out]⟩
      (repeat (first | exact hBx | (refine Below.setCell ?_ (by simp) _) | (refine bdN ?_ _) | (refine Below.drew ?_)))
    | ok p =>
      obtain ⟨f', k, m⟩ := p
      have hr := readTag_ok ht
      rw [List.length_drop] at hr
      by_cases hend : k = 4 ∧ f' = f
      · obtain ⟨rfl, rfl⟩ := hend
        have HG : Hid (res = .ok (0, l.take i, i + m)) := Lib.hid (by rw [HR.out, hgp, grp, ht]; simp only [and_self, if_true])
        clear hk hkf hgp
        have hlt : w.heap.size < wr.heap.size := cell_lt k0
        have hsh := fun W => slice_h a n c (i : Int) (by omega) (by omega) i (by omega) W
        go_wp2_with fail
        refine (readTag_yes ea _ _ _ _ _ (hsub.kept hBr) (E0.kept hBr) f' 4 m ht).mono ?_
        clear ht
        rintro e w' ⟨rfl, nq, rfl⟩
        go_wp2_with fail
        refine bodyPost_ret (v := .tuple #[.agg #[.int .u64 0, .slice (partAt a c 0) i c, .int .i64 ((i + m : Nat) : Int)], .nilIface]) (by simp [results, Tryd.results69, go_sem, k0, k1, k2]) rfl ?_
        refine ⟨?_, ?_⟩
        · (repeat (first | exact hBx | (refine Below.setCell ?_ (by simp) _) | (refine bdN ?_ _) | (refine Below.drew ?_)))
        · rw [HG.out]
          exact ⟨_, _, _, rfl, sl_part hs0 0 i (by omega) _ (by simp)⟩
      · have hgn : grp (body d) f l (fuel' + 1) i = match body d k (l.drop (i + m)) f' with
            | .er c => .er c
            | .ok (_, _, s) => grp (body d) f l fuel' (i + m + s) := by
          rw [grp, ht]
          show (if k = 4 ∧ f' = f then _ else _) = _
          rw [if_neg hend]
          cases body d k (l.drop (i + m)) f' <;> rfl
        have hsub2 : Sl w0 (partAt a c (i + m)) (n - (i + m)) (c - (i + m)) (l.drop (i + m)) := sl_part hs0 (i + m) (n - (i + m)) (by omega) _ (by rw [List.take_of_length_le (by simp; omega)])
        have hfit := body_fits d k (l.drop (i + m)) f'
        by_cases hk4 : k = 4
        · subst hk4
          have hfb : ((f' : Int) == (f : Int)) = false := by rw [beq_eq_false_iff_ne]; omega
          have hb := body4 d (l.drop (i + m)) f'
          have HG : Hid (res = .er 104) := Lib.hid (by rw [HR.out, hgp, hgn, hb])
          clear hk hkf hgp hgn hfit hend
          have hlt : w.heap.size < wr.heap.size := cell_lt k0
          obtain ⟨F, h1, h2, h3⟩ : DispA ea w0 mb d (depth + 1) 4 := ⟨_, cf4, fun W hB => (R0.kept hB).look4, fun W a n c l f hB hs => by rw [body4]; exact endBody_any ea a n c _ _ w0 W E0 hB⟩
          replace h2 : ∀ W, Below w0.heap.size w0 W → (Instr.lookup 84 (.map (some mb)) (.int .i64 4) false).run Tryd.prog W = .ok (.func (.func F) #[] #[]) W := h2
          have h3' : ∀ W, Below w0.heap.size w0 W → Calls Tryd.prog F #[.slice (partAt a c (i + m)) (n - (i + m)) (c - (i + m)), .int .i64 (f' : Int), .int .i64 ((depth : Int) + 1)] W (BodyPost ea (.er 104) w0 W) := fun W hW => by rw [← hb]; exact h3 W _ _ _ _ f' hW hsub2
          clear h3 hb
          have HC := Lib.hid h3'; clear h3'
          have hs2 := fun W => slice_l a n c ((i : Int) + (m : Int)) (by omega) (by omega) (n - (i + m)) (c - (i + m)) (by omega) (by omega) (i + m) (by omega) W
          go_wp2_with fail
          refine (readTag_yes ea _ _ _ _ _ (hsub.kept hBr) (E0.kept hBr) f' 4 m ht).mono ?_
          clear ht
          rintro e w' ⟨rfl, nq, rfl⟩
          go_upto_region 9 with fail
          have hB5 : Below w0.heap.size w0 (wr.drewN nq) := bdN hBr nq
          have hB6 : Below (w.heap.size + 1) W0 (wr.drewN nq) := bdN hB2 nq
          have hB7 : Below w.heap.size w (wr.drewN nq) := bdN hBx nq
          have j0 : (wr.drewN nq).cell? ⟨w.heap.size, 0, none⟩ = some (.int .u64 0) := by simpa using k0
          have j1 : (wr.drewN nq).cell? ⟨w.heap.size, 1, none⟩ = some (.slice none 0 0) := by simpa using k1
          have j2 : (wr.drewN nq).cell? ⟨w.heap.size, 2, none⟩ = some (.int .i64 0) := by simpa using k2
          have jf : ∀ i, (wr.drewN nq).frozen? ⟨w.heap.size, i, none⟩ = false := by intro i; simpa using kf i
          clear k0 k1 k2 kf
          have hlt5 : w.heap.size < (wr.drewN nq).heap.size := by simpa using hlt
          have hz5 := hB5.size
          have hne3 : ¬ w.heap.size = (wr.drewN nq).heap.size := by omega
          have hne4 : ¬ (wr.drewN nq).heap.size = w.heap.size := by omega
          generalize wr.drewN nq = W1 at hB5 hB6 hB7 j0 j1 j2 jf hlt5 hz5 hne3 hne4 ⊢
          have hw1 : IntKind.i64.wrap ((i : Int) + (m : Int)) = (i : Int) + (m : Int) := IntWalk.i64_in _ (by omega)
          have hw2 : IntKind.i64.wrap ((depth : Int) + 1) = (depth : Int) + 1 := IntWalk.i64_in _ (by omega)
          have hl1 := h2 W1.drew hB5.drew
          have hl2 := fun o => h2 (W1.drew.alloc o) (hB5.drew.alloc (by simp; omega) o)
          have hl3 := fun o => h2 (W1.alloc o).drew ((hB5.alloc (by omega) o).drew)
          clear h2
          go_region_with (first | (refine (HC.out _ (by repeat (first | exact hB5 | (refine Below.drew ?_) | (refine Below.alloc ?_ (by first | omega | (simp; omega)) _) | (refine bdN ?_ _)))).mono ?_; rintro e w1 ⟨hb1, rfl⟩; have hq : Below W1.heap.size W1 w1 := Below.trans (by repeat (first | exact Below.refl _ _ | (refine Below.drew ?_) | (refine Below.alloc ?_ (Nat.le_refl _) _))) (hb1.mono (by simp)); have q0 := (hq.cell (p := ⟨w.heap.size, 0, none⟩) hlt5).trans j0; have q1 := (hq.cell (p := ⟨w.heap.size, 1, none⟩) hlt5).trans j1; have q2 := (hq.cell (p := ⟨w.heap.size, 2, none⟩) hlt5).trans j2; have qf : ∀ i, w1.frozen? ⟨w.heap.size, i, none⟩ = false := (fun i => (hq.frozen (p := ⟨w.heap.size, i, none⟩) hlt5).trans (jf i)); have hqs := hq.size; obtain ⟨hc1, hf1⟩ := bcell hb1; have hz1 := hb1.size; simp only [World.size_drew, World.size_alloc] at hz1; have hne1 : ¬ w.heap.size = w1.heap.size := (by omega); have hne2 : ¬ w1.heap.size = w.heap.size := (by omega); have hltw : w.heap.size < w1.heap.size := (by omega); have r0 := (fun o => (((Below.refl _ w1).alloc (Nat.le_refl _) o).cell (p := ⟨w.heap.size, 0, none⟩) hltw).trans q0); have r1 := (fun o => (((Below.refl _ w1).alloc (Nat.le_refl _) o).cell (p := ⟨w.heap.size, 1, none⟩) hltw).trans q1); have r2 := (fun o => (((Below.refl _ w1).alloc (Nat.le_refl _) o).cell (p := ⟨w.heap.size, 2, none⟩) hltw).trans q2); have rf := (fun o i => (((Below.refl _ w1).alloc (Nat.le_refl _) o).frozen (p := ⟨w.heap.size, i, none⟩) hltw).trans (qf i))))
          all_goals (clear hw1 hw2 hl1 hl2 hl3)
          all_goals go_wp2_with fail
          all_goals refine bodyPost_ret (v := .tuple #[.agg #[.int .u64 0, .slice none 0 0, .int .i64 0], errV ea 104]) (by simp [results, Tryd.results69, go_sem, q0, q1, q2, r0, r1, r2, hne1, hne2, hne3, hne4, hltw]) rfl ?_
          all_goals refine ⟨?_, by rw [HG.out]⟩
          all_goals (repeat (first | (with_reducible refine Below.setCell ?_ (by dsimp only; omega) _) | (with_reducible refine Below.alloc ?_ (by simp only [World.size_setCell]; omega) _) | (with_reducible refine Below.alloc ?_ (by omega) _) | (with_reducible exact hB7.trans (hq.mono (by omega)))))
        · have hkb : ((k : Int) == 4) = false := by rw [beq_eq_false_iff_ne]; omega
          cases hb : body d k (l.drop (i + m)) f' with
          | er x =>
            have HG : Hid (res = .er x) := Lib.hid (by rw [HR.out, hgp, hgn, hb])
            clear hk hkf hgp hgn hfit hend hk4
            have hlt : w.heap.size < wr.heap.size := cell_lt k0
            rcases disp E0 R0 hg hr.2.2.2.2 with ⟨F, h1, h2, h3⟩ | ⟨F, bp, h1, h2, h3⟩ | ⟨F, h1, h2, h3⟩
            · have h3' : ∀ W, Below w0.heap.size w0 W → Calls Tryd.prog F #[.slice (partAt a c (i + m)) (n - (i + m)) (c - (i + m)), .int .i64 (f' : Int), .int .i64 ((depth : Int) + 1)] W (BodyPost ea (.er x) w0 W) := fun W hW => by rw [← hb]; exact h3 W _ _ _ _ f' hW hsub2
              clear h3 hb
              have HC := Lib.hid h3'; clear h3'
              have hs2 := fun W => slice_l a n c ((i : Int) + (m : Int)) (by omega) (by omega) (n - (i + m)) (c - (i + m)) (by omega) (by omega) (i + m) (by omega) W
              go_wp2_with fail
              refine (readTag_yes ea _ _ _ _ _ (hsub.kept hBr) (E0.kept hBr) f' k m ht).mono ?_
              clear ht
              rintro e w' ⟨rfl, nq, rfl⟩
              go_upto_region 9 with fail
              have hB5 : Below w0.heap.size w0 (wr.drewN nq) := bdN hBr nq
              have hB6 : Below (w.heap.size + 1) W0 (wr.drewN nq) := bdN hB2 nq
              have hB7 : Below w.heap.size w (wr.drewN nq) := bdN hBx nq
              have j0 : (wr.drewN nq).cell? ⟨w.heap.size, 0, none⟩ = some (.int .u64 0) := by simpa using k0
              have j1 : (wr.drewN nq).cell? ⟨w.heap.size, 1, none⟩ = some (.slice none 0 0) := by simpa using k1
              have j2 : (wr.drewN nq).cell? ⟨w.heap.size, 2, none⟩ = some (.int .i64 0) := by simpa using k2
              have jf : ∀ i, (wr.drewN nq).frozen? ⟨w.heap.size, i, none⟩ = false := by intro i; simpa using kf i
              clear k0 k1 k2 kf
              have hlt5 : w.heap.size < (wr.drewN nq).heap.size := by simpa using hlt
              have hz5 := hB5.size
              have hne3 : ¬ w.heap.size = (wr.drewN nq).heap.size := by omega
              have hne4 : ¬ (wr.drewN nq).heap.size = w.heap.size := by omega
              generalize wr.drewN nq = W1 at hB5 hB6 hB7 j0 j1 j2 jf hlt5 hz5 hne3 hne4 ⊢
              have hw1 : IntKind.i64.wrap ((i : Int) + (m : Int)) = (i : Int) + (m : Int) := IntWalk.i64_in _ (by omega)
              have hw2 : IntKind.i64.wrap ((depth : Int) + 1) = (depth : Int) + 1 := IntWalk.i64_in _ (by omega)
              have hl1 := h2 W1.drew hB5.drew
              have hl2 := fun o => h2 (W1.drew.alloc o) (hB5.drew.alloc (by simp; omega) o)
              have hl3 := fun o => h2 (W1.alloc o).drew ((hB5.alloc (by omega) o).drew)
              clear h2
              go_region_with (first | (refine (HC.out _ (by repeat (first | exact hB5 | (refine Below.drew ?_) | (refine Below.alloc ?_ (by first | omega | (simp; omega)) _) | (refine bdN ?_ _)))).mono ?_; rintro e w1 ⟨hb1, rfl⟩; have hq : Below W1.heap.size W1 w1 := Below.trans (by repeat (first | exact Below.refl _ _ | (refine Below.drew ?_) | (refine Below.alloc ?_ (Nat.le_refl _) _))) (hb1.mono (by simp)); have q0 := (hq.cell (p := ⟨w.heap.size, 0, none⟩) hlt5).trans j0; have q1 := (hq.cell (p := ⟨w.heap.size, 1, none⟩) hlt5).trans j1; have q2 := (hq.cell (p := ⟨w.heap.size, 2, none⟩) hlt5).trans j2; have qf : ∀ i, w1.frozen? ⟨w.heap.size, i, none⟩ = false := (fun i => (hq.frozen (p := ⟨w.heap.size, i, none⟩) hlt5).trans (jf i)); have hqs := hq.size; obtain ⟨hc1, hf1⟩ := bcell hb1; have hz1 := hb1.size; simp only [World.size_drew, World.size_alloc] at hz1; have hne1 : ¬ w.heap.size = w1.heap.size := (by omega); have hne2 : ¬ w1.heap.size = w.heap.size := (by omega); have hltw : w.heap.size < w1.heap.size := (by omega); have r0 := (fun o => (((Below.refl _ w1).alloc (Nat.le_refl _) o).cell (p := ⟨w.heap.size, 0, none⟩) hltw).trans q0); have r1 := (fun o => (((Below.refl _ w1).alloc (Nat.le_refl _) o).cell (p := ⟨w.heap.size, 1, none⟩) hltw).trans q1); have r2 := (fun o => (((Below.refl _ w1).alloc (Nat.le_refl _) o).cell (p := ⟨w.heap.size, 2, none⟩) hltw).trans q2); have rf := (fun o i => (((Below.refl _ w1).alloc (Nat.le_refl _) o).frozen (p := ⟨w.heap.size, i, none⟩) hltw).trans (qf i))))
              all_goals (clear hw1 hw2 hl1 hl2 hl3)
              all_goals go_wp2_with fail
              all_goals refine bodyPost_ret (v := .tuple #[.agg #[.int .u64 0, .slice none 0 0, .int .i64 0], errV ea x]) (by simp [results, Tryd.results69, go_sem, q0, q1, q2, r0, r1, r2, hne1, hne2, hne3, hne4, hltw]) rfl ?_
              all_goals refine ⟨?_, by rw [HG.out]⟩
              all_goals (repeat (first | (with_reducible refine Below.setCell ?_ (by dsimp only; omega) _) | (with_reducible refine Below.alloc ?_ (by simp only [World.size_setCell]; omega) _) | (with_reducible refine Below.alloc ?_ (by omega) _) | (with_reducible exact hB7.trans (hq.mono (by omega)))))
            · have h3' : ∀ W, Below w0.heap.size w0 W → Calls Tryd.prog F #[.slice (partAt a c (i + m)) (n - (i + m)) (c - (i + m)), .int .i64 (f' : Int), .int .i64 ((depth : Int) + 1), .pointer (some ⟨bp, 0, none⟩)] W (BodyPost ea (.er x) w0 W) := fun W hW => by rw [← hb]; exact h3 W _ _ _ _ f' hW hsub2
              clear h3 hb
              have HC := Lib.hid h3'; clear h3'
              have hs2 := fun W => slice_l a n c ((i : Int) + (m : Int)) (by omega) (by omega) (n - (i + m)) (c - (i + m)) (by omega) (by omega) (i + m) (by omega) W
              go_wp2_with fail
              refine (readTag_yes ea _ _ _ _ _ (hsub.kept hBr) (E0.kept hBr) f' k m ht).mono ?_
              clear ht
              rintro e w' ⟨rfl, nq, rfl⟩
              go_upto_region 9 with fail
              have hB5 : Below w0.heap.size w0 (wr.drewN nq) := bdN hBr nq
              have hB6 : Below (w.heap.size + 1) W0 (wr.drewN nq) := bdN hB2 nq
              have hB7 : Below w.heap.size w (wr.drewN nq) := bdN hBx nq
              have j0 : (wr.drewN nq).cell? ⟨w.heap.size, 0, none⟩ = some (.int .u64 0) := by simpa using k0
              have j1 : (wr.drewN nq).cell? ⟨w.heap.size, 1, none⟩ = some (.slice none 0 0) := by simpa using k1
              have j2 : (wr.drewN nq).cell? ⟨w.heap.size, 2, none⟩ = some (.int .i64 0) := by simpa using k2
              have jf : ∀ i, (wr.drewN nq).frozen? ⟨w.heap.size, i, none⟩ = false := by intro i; simpa using kf i
              clear k0 k1 k2 kf
              have hlt5 : w.heap.size < (wr.drewN nq).heap.size := by simpa using hlt
              have hz5 := hB5.size
              have hne3 : ¬ w.heap.size = (wr.drewN nq).heap.size := by omega
              have hne4 : ¬ (wr.drewN nq).heap.size = w.heap.size := by omega
              generalize wr.drewN nq = W1 at hB5 hB6 hB7 j0 j1 j2 jf hlt5 hz5 hne3 hne4 ⊢
              have hw1 : IntKind.i64.wrap ((i : Int) + (m : Int)) = (i : Int) + (m : Int) := IntWalk.i64_in _ (by omega)
              have hw2 : IntKind.i64.wrap ((depth : Int) + 1) = (depth : Int) + 1 := IntWalk.i64_in _ (by omega)
              have hl1 := h2 W1.drew hB5.drew
              have hl2 := fun o => h2 (W1.drew.alloc o) (hB5.drew.alloc (by simp; omega) o)
              have hl3 := fun o => h2 (W1.alloc o).drew ((hB5.alloc (by omega) o).drew)
              clear h2
              go_region_with (first | (refine (HC.out _ (by repeat (first | exact hB5 | (refine Below.drew ?_) | (refine Below.alloc ?_ (by first | omega | (simp; omega)) _) | (refine bdN ?_ _)))).mono ?_; rintro e w1 ⟨hb1, rfl⟩; have hq : Below W1.heap.size W1 w1 := Below.trans (by repeat (first | exact Below.refl _ _ | (refine Below.drew ?_) | (refine Below.alloc ?_ (Nat.le_refl _) _))) (hb1.mono (by simp)); have q0 := (hq.cell (p := ⟨w.heap.size, 0, none⟩) hlt5).trans j0; have q1 := (hq.cell (p := ⟨w.heap.size, 1, none⟩) hlt5).trans j1; have q2 := (hq.cell (p := ⟨w.heap.size, 2, none⟩) hlt5).trans j2; have qf : ∀ i, w1.frozen? ⟨w.heap.size, i, none⟩ = false := (fun i => (hq.frozen (p := ⟨w.heap.size, i, none⟩) hlt5).trans (jf i)); have hqs := hq.size; obtain ⟨hc1, hf1⟩ := bcell hb1; have hz1 := hb1.size; simp only [World.size_drew, World.size_alloc] at hz1; have hne1 : ¬ w.heap.size = w1.heap.size := (by omega); have hne2 : ¬ w1.heap.size = w.heap.size := (by omega); have hltw : w.heap.size < w1.heap.size := (by omega); have r0 := (fun o => (((Below.refl _ w1).alloc (Nat.le_refl _) o).cell (p := ⟨w.heap.size, 0, none⟩) hltw).trans q0); have r1 := (fun o => (((Below.refl _ w1).alloc (Nat.le_refl _) o).cell (p := ⟨w.heap.size, 1, none⟩) hltw).trans q1); have r2 := (fun o => (((Below.refl _ w1).alloc (Nat.le_refl _) o).cell (p := ⟨w.heap.size, 2, none⟩) hltw).trans q2); have rf := (fun o i => (((Below.refl _ w1).alloc (Nat.le_refl _) o).frozen (p := ⟨w.heap.size, i, none⟩) hltw).trans (qf i))))
              all_goals (clear hw1 hw2 hl1 hl2 hl3)
              all_goals go_wp2_with fail
              all_goals refine bodyPost_ret (v := .tuple #[.agg #[.int .u64 0, .slice none 0 0, .int .i64 0], errV ea x]) (by simp [results, Tryd.results69, go_sem, q0, q1, q2, r0, r1, r2, hne1, hne2, hne3, hne4, hltw]) rfl ?_
              all_goals refine ⟨?_, by rw [HG.out]⟩
              all_goals (repeat (first | (with_reducible refine Below.setCell ?_ (by dsimp only; omega) _) | (with_reducible refine Below.alloc ?_ (by simp only [World.size_setCell]; omega) _) | (with_reducible refine Below.alloc ?_ (by omega) _) | (with_reducible exact hB7.trans (hq.mono (by omega)))))
            · have h3' : ∀ W, Below w0.heap.size w0 W → Calls Tryd.prog F #[.map (some mb), .slice (partAt a c (i + m)) (n - (i + m)) (c - (i + m)), .int .i64 (f' : Int), .int .i64 ((depth : Int) + 1)] W (BodyPost ea (.er x) w0 W) := fun W hW => by rw [← hb]; exact h3 W _ _ _ _ f' hW hsub2
              clear h3 hb
              have HC := Lib.hid h3'; clear h3'
              have hs2 := fun W => slice_l a n c ((i : Int) + (m : Int)) (by omega) (by omega) (n - (i + m)) (c - (i + m)) (by omega) (by omega) (i + m) (by omega) W
              go_wp2_with fail
              refine (readTag_yes ea _ _ _ _ _ (hsub.kept hBr) (E0.kept hBr) f' k m ht).mono ?_
              clear ht
              rintro e w' ⟨rfl, nq, rfl⟩
              go_upto_region 9 with fail
              have hB5 : Below w0.heap.size w0 (wr.drewN nq) := bdN hBr nq
              have hB6 : Below (w.heap.size + 1) W0 (wr.drewN nq) := bdN hB2 nq
              have hB7 : Below w.heap.size w (wr.drewN nq) := bdN hBx nq
              have j0 : (wr.drewN nq).cell? ⟨w.heap.size, 0, none⟩ = some (.int .u64 0) := by simpa using k0
              have j1 : (wr.drewN nq).cell? ⟨w.heap.size, 1, none⟩ = some (.slice none 0 0) := by simpa using k1
              have j2 : (wr.drewN nq).cell? ⟨w.heap.size, 2, none⟩ = some (.int .i64 0) := by simpa using k2
              have jf : ∀ i, (wr.drewN nq).frozen? ⟨w.heap.size, i, none⟩ = false := by intro i; simpa using kf i
              clear k0 k1 k2 kf
              have hlt5 : w.heap.size < (wr.drewN nq).heap.size := by simpa using hlt
              have hz5 := hB5.size
              have hne3 : ¬ w.heap.size = (wr.drewN nq).heap.size := by omega
              have hne4 : ¬ (wr.drewN nq).heap.size = w.heap.size := by omega
              generalize wr.drewN nq = W1 at hB5 hB6 hB7 j0 j1 j2 jf hlt5 hz5 hne3 hne4 ⊢
              have hw1 : IntKind.i64.wrap ((i : Int) + (m : Int)) = (i : Int) + (m : Int) := IntWalk.i64_in _ (by omega)
              have hw2 : IntKind.i64.wrap ((depth : Int) + 1) = (depth : Int) + 1 := IntWalk.i64_in _ (by omega)
              have hl1 := h2 W1.drew hB5.drew
              have hl2 := fun o => h2 (W1.drew.alloc o) (hB5.drew.alloc (by simp; omega) o)
              have hl3 := fun o => h2 (W1.alloc o).drew ((hB5.alloc (by omega) o).drew)
              clear h2
              go_region_with (first | (refine (HC.out _ (by repeat (first | exact hB5 | (refine Below.drew ?_) | (refine Below.alloc ?_ (by first | omega | (simp; omega)) _) | (refine bdN ?_ _)))).mono ?_; rintro e w1 ⟨hb1, rfl⟩; have hq : Below W1.heap.size W1 w1 := Below.trans (by repeat (first | exact Below.refl _ _ | (refine Below.drew ?_) | (refine Below.alloc ?_ (Nat.le_refl _) _))) (hb1.mono (by simp)); have q0 := (hq.cell (p := ⟨w.heap.size, 0, none⟩) hlt5).trans j0; have q1 := (hq.cell (p := ⟨w.heap.size, 1, none⟩) hlt5).trans j1; have q2 := (hq.cell (p := ⟨w.heap.size, 2, none⟩) hlt5).trans j2; have qf : ∀ i, w1.frozen? ⟨w.heap.size, i, none⟩ = false := (fun i => (hq.frozen (p := ⟨w.heap.size, i, none⟩) hlt5).trans (jf i)); have hqs := hq.size; obtain ⟨hc1, hf1⟩ := bcell hb1; have hz1 := hb1.size; simp only [World.size_drew, World.size_alloc] at hz1; have hne1 : ¬ w.heap.size = w1.heap.size := (by omega); have hne2 : ¬ w1.heap.size = w.heap.size := (by omega); have hltw : w.heap.size < w1.heap.size := (by omega); have r0 := (fun o => (((Below.refl _ w1).alloc (Nat.le_refl _) o).cell (p := ⟨w.heap.size, 0, none⟩) hltw).trans q0); have r1 := (fun o => (((Below.refl _ w1).alloc (Nat.le_refl _) o).cell (p := ⟨w.heap.size, 1, none⟩) hltw).trans q1); have r2 := (fun o => (((Below.refl _ w1).alloc (Nat.le_refl _) o).cell (p := ⟨w.heap.size, 2, none⟩) hltw).trans q2); have rf := (fun o i => (((Below.refl _ w1).alloc (Nat.le_refl _) o).frozen (p := ⟨w.heap.size, i, none⟩) hltw).trans (qf i))))
              all_goals (clear hw1 hw2 hl1 hl2 hl3)
              all_goals go_wp2_with fail
              all_goals refine bodyPost_ret (v := .tuple #[.agg #[.int .u64 0, .slice none 0 0, .int .i64 0], errV ea x]) (by simp [results, Tryd.results69, go_sem, q0, q1, q2, r0, r1, r2, hne1, hne2, hne3, hne4, hltw]) rfl ?_
              all_goals refine ⟨?_, by rw [HG.out]⟩
              all_goals (repeat (first | (with_reducible refine Below.setCell ?_ (by dsimp only; omega) _) | (with_reducible refine Below.alloc ?_ (by simp only [World.size_setCell]; omega) _) | (with_reducible refine Below.alloc ?_ (by omega) _) | (with_reducible exact hB7.trans (hq.mono (by omega)))))
          | ok q =>
            obtain ⟨u, b, s⟩ := q
            rw [hb] at hfit
            obtain ⟨_, _, hs3⟩ := hfit
            rw [List.length_drop] at hs3
            have HG : Hid (grp (body d) f l (l.length + 1) 0 = grp (body d) f l fuel' (i + m + s)) := Lib.hid (by rw [hgp, hgn, hb])
            clear hk hkf hgp hgn hend hk4
            have hlt : w.heap.size < wr.heap.size := cell_lt k0
            rcases disp E0 R0 hg hr.2.2.2.2 with ⟨F, h1, h2, h3⟩ | ⟨F, bp, h1, h2, h3⟩ | ⟨F, h1, h2, h3⟩
            · have h3' : ∀ W, Below w0.heap.size w0 W → Calls Tryd.prog F #[.slice (partAt a c (i + m)) (n - (i + m)) (c - (i + m)), .int .i64 (f' : Int), .int .i64 ((depth : Int) + 1)] W (BodyPost ea (.ok (u, b, s)) w0 W) := fun W hW => by rw [← hb]; exact h3 W _ _ _ _ f' hW hsub2
              clear h3 hb
              have HC := Lib.hid h3'; clear h3'
              have hs2 := fun W => slice_l a n c ((i : Int) + (m : Int)) (by omega) (by omega) (n - (i + m)) (c - (i + m)) (by omega) (by omega) (i + m) (by omega) W
              go_wp2_with fail
              refine (readTag_yes ea _ _ _ _ _ (hsub.kept hBr) (E0.kept hBr) f' k m ht).mono ?_
              clear ht
              rintro e w' ⟨rfl, nq, rfl⟩
              go_upto_region 9 with fail
              have hB5 : Below w0.heap.size w0 (wr.drewN nq) := bdN hBr nq
              have hB6 : Below (w.heap.size + 1) W0 (wr.drewN nq) := bdN hB2 nq
              have hB7 : Below w.heap.size w (wr.drewN nq) := bdN hBx nq
              have j0 : (wr.drewN nq).cell? ⟨w.heap.size, 0, none⟩ = some (.int .u64 0) := by simpa using k0
              have j1 : (wr.drewN nq).cell? ⟨w.heap.size, 1, none⟩ = some (.slice none 0 0) := by simpa using k1
              have j2 : (wr.drewN nq).cell? ⟨w.heap.size, 2, none⟩ = some (.int .i64 0) := by simpa using k2
              have jf : ∀ i, (wr.drewN nq).frozen? ⟨w.heap.size, i, none⟩ = false := by intro i; simpa using kf i
              clear k0 k1 k2 kf
              have hlt5 : w.heap.size < (wr.drewN nq).heap.size := by simpa using hlt
              have hz5 := hB5.size
              have hne3 : ¬ w.heap.size = (wr.drewN nq).heap.size := by omega
              have hne4 : ¬ (wr.drewN nq).heap.size = w.heap.size := by omega
              generalize wr.drewN nq = W1 at hB5 hB6 hB7 j0 j1 j2 jf hlt5 hz5 hne3 hne4 ⊢
              have hw1 : IntKind.i64.wrap ((i : Int) + (m : Int)) = (i : Int) + (m : Int) := IntWalk.i64_in _ (by omega)
              have hw2 : IntKind.i64.wrap ((depth : Int) + 1) = (depth : Int) + 1 := IntWalk.i64_in _ (by omega)
              have hl1 := h2 W1.drew hB5.drew
              have hl2 := fun o => h2 (W1.drew.alloc o) (hB5.drew.alloc (by simp; omega) o)
              have hl3 := fun o => h2 (W1.alloc o).drew ((hB5.alloc (by omega) o).drew)
              clear h2
              go_region_with (first | (refine (HC.out _ (by repeat (first | exact hB5 | (refine Below.drew ?_) | (refine Below.alloc ?_ (by first | omega | (simp; omega)) _) | (refine bdN ?_ _)))).mono ?_; rintro e w1 ⟨hb1, a1, m1, c1, rfl, hs1⟩; have hq : Below W1.heap.size W1 w1 := Below.trans (by repeat (first | exact Below.refl _ _ | (refine Below.drew ?_) | (refine Below.alloc ?_ (Nat.le_refl _) _))) (hb1.mono (by simp)); have q0 := (hq.cell (p := ⟨w.heap.size, 0, none⟩) hlt5).trans j0; have q1 := (hq.cell (p := ⟨w.heap.size, 1, none⟩) hlt5).trans j1; have q2 := (hq.cell (p := ⟨w.heap.size, 2, none⟩) hlt5).trans j2; have qf : ∀ i, w1.frozen? ⟨w.heap.size, i, none⟩ = false := (fun i => (hq.frozen (p := ⟨w.heap.size, i, none⟩) hlt5).trans (jf i)); have hqs := hq.size; obtain ⟨hc1, hf1⟩ := bcell hb1; have hz1 := hb1.size; simp only [World.size_drew, World.size_alloc] at hz1; have hne1 : ¬ w.heap.size = w1.heap.size := (by omega); have hne2 : ¬ w1.heap.size = w.heap.size := (by omega); have hltw : w.heap.size < w1.heap.size := (by omega); have r0 := (fun o => (((Below.refl _ w1).alloc (Nat.le_refl _) o).cell (p := ⟨w.heap.size, 0, none⟩) hltw).trans q0); have r1 := (fun o => (((Below.refl _ w1).alloc (Nat.le_refl _) o).cell (p := ⟨w.heap.size, 1, none⟩) hltw).trans q1); have r2 := (fun o => (((Below.refl _ w1).alloc (Nat.le_refl _) o).cell (p := ⟨w.heap.size, 2, none⟩) hltw).trans q2); have rf := (fun o i => (((Below.refl _ w1).alloc (Nat.le_refl _) o).frozen (p := ⟨w.heap.size, i, none⟩) hltw).trans (qf i))))
              all_goals (clear hw1 hw2 hl1 hl2 hl3)
              all_goals go_wp2_with fail
              all_goals refine ⟨⟨i + (m + s), by go_num, by omega, ⟨fuel', by omega, by rw [HG.out, Nat.add_assoc]⟩, ?_, ?_⟩, by simp [intOf]; omega⟩
              all_goals (repeat (first | (with_reducible refine Below.setCell ?_ (by dsimp only; omega) _) | (with_reducible refine Below.alloc ?_ (by simp only [World.size_setCell]; omega) _) | (with_reducible refine Below.alloc ?_ (by omega) _) | (with_reducible exact hB5.trans (hq.mono (by omega))) | (with_reducible exact hB6.trans (hq.mono (by omega)))))
            · have h3' : ∀ W, Below w0.heap.size w0 W → Calls Tryd.prog F #[.slice (partAt a c (i + m)) (n - (i + m)) (c - (i + m)), .int .i64 (f' : Int), .int .i64 ((depth : Int) + 1), .pointer (some ⟨bp, 0, none⟩)] W (BodyPost ea (.ok (u, b, s)) w0 W) := fun W hW => by rw [← hb]; exact h3 W _ _ _ _ f' hW hsub2
              clear h3 hb
              have HC := Lib.hid h3'; clear h3'
              have hs2 := fun W => slice_l a n c ((i : Int) + (m : Int)) (by omega) (by omega) (n - (i + m)) (c - (i + m)) (by omega) (by omega) (i + m) (by omega) W
              go_wp2_with fail
              refine (readTag_yes ea _ _ _ _ _ (hsub.kept hBr) (E0.kept hBr) f' k m ht).mono ?_
              clear ht
              rintro e w' ⟨rfl, nq, rfl⟩
              go_upto_region 9 with fail
              have hB5 : Below w0.heap.size w0 (wr.drewN nq) := bdN hBr nq
              have hB6 : Below (w.heap.size + 1) W0 (wr.drewN nq) := bdN hB2 nq
              have hB7 : Below w.heap.size w (wr.drewN nq) := bdN hBx nq
              have j0 : (wr.drewN nq).cell? ⟨w.heap.size, 0, none⟩ = some (.int .u64 0) := by simpa using k0
              have j1 : (wr.drewN nq).cell? ⟨w.heap.size, 1, none⟩ = some (.slice none 0 0) := by simpa using k1
              have j2 : (wr.drewN nq).cell? ⟨w.heap.size, 2, none⟩ = some (.int .i64 0) := by simpa using k2
              have jf : ∀ i, (wr.drewN nq).frozen? ⟨w.heap.size, i, none⟩ = false := by intro i; simpa using kf i
              clear k0 k1 k2 kf
              have hlt5 : w.heap.size < (wr.drewN nq).heap.size := by simpa using hlt
              have hz5 := hB5.size
              have hne3 : ¬ w.heap.size = (wr.drewN nq).heap.size := by omega
              have hne4 : ¬ (wr.drewN nq).heap.size = w.heap.size := by omega
              generalize wr.drewN nq = W1 at hB5 hB6 hB7 j0 j1 j2 jf hlt5 hz5 hne3 hne4 ⊢
              have hw1 : IntKind.i64.wrap ((i : Int) + (m : Int)) = (i : Int) + (m : Int) := IntWalk.i64_in _ (by omega)
              have hw2 : IntKind.i64.wrap ((depth : Int) + 1) = (depth : Int) + 1 := IntWalk.i64_in _ (by omega)
              have hl1 := h2 W1.drew hB5.drew
              have hl2 := fun o => h2 (W1.drew.alloc o) (hB5.drew.alloc (by simp; omega) o)
              have hl3 := fun o => h2 (W1.alloc o).drew ((hB5.alloc (by omega) o).drew)
              clear h2
              go_region_with (first | (refine (HC.out _ (by repeat (first | exact hB5 | (refine Below.drew ?_) | (refine Below.alloc ?_ (by first | omega | (simp; omega)) _) | (refine bdN ?_ _)))).mono ?_; rintro e w1 ⟨hb1, a1, m1, c1, rfl, hs1⟩; have hq : Below W1.heap.size W1 w1 := Below.trans (by repeat (first | exact Below.refl _ _ | (refine Below.drew ?_) | (refine Below.alloc ?_ (Nat.le_refl _) _))) (hb1.mono (by simp)); have q0 := (hq.cell (p := ⟨w.heap.size, 0, none⟩) hlt5).trans j0; have q1 := (hq.cell (p := ⟨w.heap.size, 1, none⟩) hlt5).trans j1; have q2 := (hq.cell (p := ⟨w.heap.size, 2, none⟩) hlt5).trans j2; have qf : ∀ i, w1.frozen? ⟨w.heap.size, i, none⟩ = false := (fun i => (hq.frozen (p := ⟨w.heap.size, i, none⟩) hlt5).trans (jf i)); have hqs := hq.size; obtain ⟨hc1, hf1⟩ := bcell hb1; have hz1 := hb1.size; simp only [World.size_drew, World.size_alloc] at hz1; have hne1 : ¬ w.heap.size = w1.heap.size := (by omega); have hne2 : ¬ w1.heap.size = w.heap.size := (by omega); have hltw : w.heap.size < w1.heap.size := (by omega); have r0 := (fun o => (((Below.refl _ w1).alloc (Nat.le_refl _) o).cell (p := ⟨w.heap.size, 0, none⟩) hltw).trans q0); have r1 := (fun o => (((Below.refl _ w1).alloc (Nat.le_refl _) o).cell (p := ⟨w.heap.size, 1, none⟩) hltw).trans q1); have r2 := (fun o => (((Below.refl _ w1).alloc (Nat.le_refl _) o).cell (p := ⟨w.heap.size, 2, none⟩) hltw).trans q2); have rf := (fun o i => (((Below.refl _ w1).alloc (Nat.le_refl _) o).frozen (p := ⟨w.heap.size, i, none⟩) hltw).trans (qf i))))
              all_goals (clear hw1 hw2 hl1 hl2 hl3)
              all_goals go_wp2_with fail
              all_goals refine ⟨⟨i + (m + s), by go_num, by omega, ⟨fuel', by omega, by rw [HG.out, Nat.add_assoc]⟩, ?_, ?_⟩, by simp [intOf]; omega⟩
              all_goals (repeat (first | (with_reducible refine Below.setCell ?_ (by dsimp only; omega) _) | (with_reducible refine Below.alloc ?_ (by simp only [World.size_setCell]; omega) _) | (with_reducible refine Below.alloc ?_ (by omega) _) | (with_reducible exact hB5.trans (hq.mono (by omega))) | (with_reducible exact hB6.trans (hq.mono (by omega)))))
            · have h3' : ∀ W, Below w0.heap.size w0 W → Calls Tryd.prog F #[.map (some mb), .slice (partAt a c (i + m)) (n - (i + m)) (c - (i + m)), .int .i64 (f' : Int), .int .i64 ((depth : Int) + 1)] W (BodyPost ea (.ok (u, b, s)) w0 W) := fun W hW => by rw [← hb]; exact h3 W _ _ _ _ f' hW hsub2
              clear h3 hb
              have HC := Lib.hid h3'; clear h3'
              have hs2 := fun W => slice_l a n c ((i : Int) + (m : Int)) (by omega) (by omega) (n - (i + m)) (c - (i + m)) (by omega) (by omega) (i + m) (by omega) W
              go_wp2_with fail
              refine (readTag_yes ea _ _ _ _ _ (hsub.kept hBr) (E0.kept hBr) f' k m ht).mono ?_
              clear ht
              rintro e w' ⟨rfl, nq, rfl⟩
              go_upto_region 9 with fail
              have hB5 : Below w0.heap.size w0 (wr.drewN nq) := bdN hBr nq
              have hB6 : Below (w.heap.size + 1) W0 (wr.drewN nq) := bdN hB2 nq
              have hB7 : Below w.heap.size w (wr.drewN nq) := bdN hBx nq
              have j0 : (wr.drewN nq).cell? ⟨w.heap.size, 0, none⟩ = some (.int .u64 0) := by simpa using k0
              have j1 : (wr.drewN nq).cell? ⟨w.heap.size, 1, none⟩ = some (.slice none 0 0) := by simpa using k1
              have j2 : (wr.drewN nq).cell? ⟨w.heap.size, 2, none⟩ = some (.int .i64 0) := by simpa using k2
              have jf : ∀ i, (wr.drewN nq).frozen? ⟨w.heap.size, i, none⟩ = false := by intro i; simpa using kf i
              clear k0 k1 k2 kf
              have hlt5 : w.heap.size < (wr.drewN nq).heap.size := by simpa using hlt
              have hz5 := hB5.size
              have hne3 : ¬ w.heap.size = (wr.drewN nq).heap.size := by omega
              have hne4 : ¬ (wr.drewN nq).heap.size = w.heap.size := by omega
              generalize wr.drewN nq = W1 at hB5 hB6 hB7 j0 j1 j2 jf hlt5 hz5 hne3 hne4 ⊢
              have hw1 : IntKind.i64.wrap ((i : Int) + (m : Int)) = (i : Int) + (m : Int) := IntWalk.i64_in _ (by omega)
              have hw2 : IntKind.i64.wrap ((depth : Int) + 1) = (depth : Int) + 1 := IntWalk.i64_in _ (by omega)
              have hl1 := h2 W1.drew hB5.drew
              have hl2 := fun o => h2 (W1.drew.alloc o) (hB5.drew.alloc (by simp; omega) o)
              have hl3 := fun o => h2 (W1.alloc o).drew ((hB5.alloc (by omega) o).drew)
              clear h2
              go_region_with (first | (refine (HC.out _ (by repeat (first | exact hB5 | (refine Below.drew ?_) | (refine Below.alloc ?_ (by first | omega | (simp; omega)) _) | (refine bdN ?_ _)))).mono ?_; rintro e w1 ⟨hb1, a1, m1, c1, rfl, hs1⟩; have hq : Below W1.heap.size W1 w1 := Below.trans (by repeat (first | exact Below.refl _ _ | (refine Below.drew ?_) | (refine Below.alloc ?_ (Nat.le_refl _) _))) (hb1.mono (by simp)); have q0 := (hq.cell (p := ⟨w.heap.size, 0, none⟩) hlt5).trans j0; have q1 := (hq.cell (p := ⟨w.heap.size, 1, none⟩) hlt5).trans j1; have q2 := (hq.cell (p := ⟨w.heap.size, 2, none⟩) hlt5).trans j2; have qf : ∀ i, w1.frozen? ⟨w.heap.size, i, none⟩ = false := (fun i => (hq.frozen (p := ⟨w.heap.size, i, none⟩) hlt5).trans (jf i)); have hqs := hq.size; obtain ⟨hc1, hf1⟩ := bcell hb1; have hz1 := hb1.size; simp only [World.size_drew, World.size_alloc] at hz1; have hne1 : ¬ w.heap.size = w1.heap.size := (by omega); have hne2 : ¬ w1.heap.size = w.heap.size := (by omega); have hltw : w.heap.size < w1.heap.size := (by omega); have r0 := (fun o => (((Below.refl _ w1).alloc (Nat.le_refl _) o).cell (p := ⟨w.heap.size, 0, none⟩) hltw).trans q0); have r1 := (fun o => (((Below.refl _ w1).alloc (Nat.le_refl _) o).cell (p := ⟨w.heap.size, 1, none⟩) hltw).trans q1); have r2 := (fun o => (((Below.refl _ w1).alloc (Nat.le_refl _) o).cell (p := ⟨w.heap.size, 2, none⟩) hltw).trans q2); have rf := (fun o i => (((Below.refl _ w1).alloc (Nat.le_refl _) o).frozen (p := ⟨w.heap.size, i, none⟩) hltw).trans (qf i))))
              all_goals (clear hw1 hw2 hl1 hl2 hl3)
              all_goals go_wp2_with fail
              all_goals refine ⟨⟨i + (m + s), by go_num, by omega, ⟨fuel', by omega, by rw [HG.out, Nat.add_assoc]⟩, ?_, ?_⟩, by simp [intOf]; omega⟩
              all_goals (repeat (first | (with_reducible refine Below.setCell ?_ (by dsimp only; omega) _) | (with_reducible refine Below.alloc ?_ (by simp only [World.size_setCell]; omega) _) | (with_reducible refine Below.alloc ?_ (by omega) _) | (with_reducible exact hB5.trans (hq.mono (by omega))) | (with_reducible exact hB6.trans (hq.mono (by omega)))))
end Go.Proofs.YtclnmajjkchfmaaDoor
