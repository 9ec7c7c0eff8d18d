/-
  CONTRACTS: the document's group, a round; next and Next whole.
-/
import Derived.Test.YtclnmajjkchfmaaDoorWn
namespace Go.Proofs.YtclnmajjkchfmaaDoor
open Go.RowKit Wr

theorem nextr_of {d depth : Nat} (hg : GroupR d depth) : NextR d depth := by
  intro w a n c l hs hn
  cases ht : readTag l with
  | er x => exact nextr_tag a n c l d _ w hs x ht
  | ok p =>
    obtain ⟨f, k, m⟩ := p
    have hr := readTag_ok ht
    have hk' : k = 0 ∨ k = 1 ∨ k = 2 ∨ k = 3 ∨ k = 4 ∨ k = 5 := by omega
    rcases hk' with rfl | rfl | rfl | rfl | rfl | rfl
    · exact nextr_k0 a n c l d _ w hs f m ht
    · exact nextr_k1 a n c l d _ w hs f m ht
    · exact nextr_k2 a n c l d _ w hs hn f m ht
    · exact nextr_k3 d depth hg a n c l w hs hn f m ht
    · exact nextr_k4 a n c l d _ w hs f m ht
    · exact nextr_k5 a n c l d _ w hs f m ht
theorem grp_er {bd : Nat → List UInt8 → Nat → Res Body} (hbd : ∀ k l f x, bd k l f = .er x → 101 ≤ x) (f : Nat) (l : List UInt8) : ∀ (fuel i x : Nat), grp bd f l fuel i = .er x → 101 ≤ x
  | 0, i, x, h => by rw [grp] at h; simp at h; omega
  | fuel + 1, i, x, h => by
    rw [grp] at h
    cases ht : readTag (l.drop i) with
    | er c =>
      rw [ht] at h
      simp at h
      subst h
      rcases readTag_bad ht with hu | ⟨u, m, hu, hu2⟩
      · have := uv_er hu; omega
      · rcases untag_cases u with ⟨h0, _⟩ | ⟨h0, _⟩ <;> rw [h0] at hu2 <;> cases hu2; omega
    | ok p =>
      obtain ⟨f', k, n⟩ := p
      rw [ht] at h
      simp only at h
      split at h
      · cases h
      · cases hb : bd k (l.drop (i + n)) f' with
        | er c => rw [hb] at h; simp at h; subst h; exact hbd _ _ _ _ hb
        | ok q => rw [hb] at h; exact grp_er hbd f l fuel _ x h
theorem varBody_er {l : List UInt8} {x : Nat} (h : varBody l = .er x) : 101 ≤ x := by
  unfold varBody at h
  cases hu : uv l with
  | er c => rw [hu] at h; simp at h; subst h; have := uv_er hu; omega
  | ok p => rw [hu] at h; cases h
theorem fixBody_er {k : Nat} {l : List UInt8} {x : Nat} (h : fixBody k l = .er x) : 101 ≤ x := by
  unfold fixBody at h
  split at h
  · simp at h; omega
  · cases h
theorem bytBody_er {l : List UInt8} {x : Nat} (h : bytBody l = .er x) : 101 ≤ x := by
  unfold bytBody at h
  cases hu : uv l with
  | er c => rw [hu] at h; simp at h; subst h; have := uv_er hu; omega
  | ok p =>
    rw [hu] at h
    simp only at h
    split at h
    · simp at h; omega
    · cases h
theorem body_er : ∀ (d k : Nat) (l : List UInt8) (f x : Nat), body d k l f = .er x → 101 ≤ x := by
  intro d
  induction d with
  | zero =>
    intro k l f x h
    unfold body at h
    split at h
    · exact varBody_er h
    split at h
    · exact fixBody_er h
    split at h
    · exact bytBody_er h
    split at h
    · simp at h; omega
    split at h
    · exact fixBody_er h
    · simp at h; omega
  | succ d ih =>
    intro k l f x h
    unfold body at h
    split at h
    · exact varBody_er h
    split at h
    · exact fixBody_er h
    split at h
    · exact bytBody_er h
    split at h
    · exact grp_er ih f l _ _ x h
    split at h
    · exact fixBody_er h
    · simp at h; omega
theorem rec_er {d : Nat} {l : List UInt8} {x : Nat} (h : rec d l = .er x) : 101 ≤ x := by
  unfold rec at h
  cases ht : readTag l with
  | er c =>
    rw [ht] at h
    simp at h
    subst h
    rcases readTag_bad ht with hu | ⟨u, m, hu, hu2⟩
    · have := uv_er hu; omega
    · rcases untag_cases u with ⟨h0, _⟩ | ⟨h0, _⟩ <;> rw [h0] at hu2 <;> cases hu2; omega
  | ok p =>
    obtain ⟨f', k, n⟩ := p
    rw [ht] at h
    simp only at h
    cases hb : body d k (l.drop n) f' with
    | er c => rw [hb] at h; simp at h; subst h; exact body_er _ _ _ _ _ hb
    | ok q => rw [hb] at h; cases h

set_option maxRecDepth 100000 in
set_option maxHeartbeats 8000000 in
theorem groupr_succ (d depth : Nat) (hd : depth < 32) (hnx : NextR d (depth + 1)) : GroupR (d + 1) depth := by
  intro w a n c l f i0 hs hn hi0
  have hlen := hs.len
  have hle := hs.le
  have hgr := body3s d (l.drop i0) f
  generalize body (d + 1) 3 (l.drop i0) f = res at hgr
  have HR := Lib.hid hgr; clear hgr
  have hk : ∀ i v, (#[.int .i64 (f : Int), .int .i64 3, .int .u64 0, .slice none 0 0] : Array Value)[i]? = some v → ((w.alloc (.cells #[.int .i64 (f : Int), .int .i64 3, .int .u64 0, .slice none 0 0] 56)).alloc recO).cell? ⟨w.heap.size, i, none⟩ = some v := by intro i v h; rw [← h]; simp [go_sem]
  have hk1 : ∀ i v, (#[.int .i64 0, .int .i64 0, .int .u64 0, .slice none 0 0] : Array Value)[i]? = some v → ((w.alloc (.cells #[.int .i64 (f : Int), .int .i64 3, .int .u64 0, .slice none 0 0] 56)).alloc recO).cell? ⟨w.heap.size + 1, i, none⟩ = some v := by intro i v h; rw [← h]; simp [go_sem]
  have hkf : ∀ i, ((w.alloc (.cells #[.int .i64 (f : Int), .int .i64 3, .int .u64 0, .slice none 0 0] 56)).alloc recO).frozen? ⟨w.heap.size, i, none⟩ = false := by intro i; simp [go_sem]
  have hkf1 : ∀ i, ((w.alloc (.cells #[.int .i64 (f : Int), .int .i64 3, .int .u64 0, .slice none 0 0] 56)).alloc recO).frozen? ⟨w.heap.size + 1, i, none⟩ = false := by intro i; simp [go_sem]
  have hS0 : ((w.alloc (.cells #[.int .i64 (f : Int), .int .i64 3, .int .u64 0, .slice none 0 0] 56)).alloc recO).heap.size = w.heap.size + 1 + 1 := by simp
  have hBw0 : Below w.heap.size w ((w.alloc (.cells #[.int .i64 (f : Int), .int .i64 3, .int .u64 0, .slice none 0 0] 56)).alloc recO) := ((Below.refl _ _).alloc (Nat.le_refl _) _).alloc (by simp) _
  have hw1 : IntKind.i64.wrap ((depth : Int) + 1) = (depth : Int) + 1 := IntWalk.i64_in _ (by omega)
  go_enter Tryd.func72, Tryd.ntmps72
  go_wp2
  generalize ((w.alloc (.cells #[.int .i64 (f : Int), .int .i64 3, .int .u64 0, .slice none 0 0] 56)).alloc recO) = W0 at hk hk1 hkf hkf1 hS0 hBw0 ⊢
  have HZ0 := Lib.hid hS0; clear hS0
  go_loopw [2] (fun s2 wr => ∃ j : Nat, s2 = .int .i64 ((i0 : Int) + (j : Int)) ∧ i0 + j ≤ n ∧ (∃ fuel, (l.drop i0).length + 1 ≤ fuel + j ∧ Hid (res = grp (body d) f (l.drop i0) fuel j)) ∧ Below (w.heap.size + 1 + 1) W0 wr)
    (fun s2 _ => l.length + 1 - (intOf s2).toNat)
  case atStart => exact ⟨0, by simp, by omega, ⟨(l.drop i0).length + 1, by omega, HR⟩, Below.refl _ _⟩
  case round =>
    obtain ⟨j, rfl, hj, ⟨fuel, hfu, hgp⟩, hB2⟩ := hrel
    rw [List.length_drop] at hfu
    obtain ⟨fuel', rfl⟩ : ∃ q, fuel = q + 1 := ⟨fuel - 1, by omega⟩
    have hs00 := HZ0.out
    have hzr := hB2.size
    have hzr1 : w.heap.size + 1 + 1 ≤ wr.heap.size := by omega
    have hBw : Below w.heap.size w wr := hBw0.trans (hB2.mono (by omega))
    have A0 := (hB2.cell (p := ⟨w.heap.size, 0, none⟩) (by dsimp only; omega)).trans (hk 0 (.int .i64 (f : Int)) rfl)
    have A1 := (hB2.cell (p := ⟨w.heap.size, 1, none⟩) (by dsimp only; omega)).trans (hk 1 (.int .i64 3) rfl)
    have A2 := (hB2.cell (p := ⟨w.heap.size, 2, none⟩) (by dsimp only; omega)).trans (hk 2 (.int .u64 0) rfl)
    have A3 := (hB2.cell (p := ⟨w.heap.size, 3, none⟩) (by dsimp only; omega)).trans (hk 3 (.slice none 0 0) rfl)
    have AF : ∀ i, wr.frozen? ⟨w.heap.size, i, none⟩ = false := fun i => (hB2.frozen (p := ⟨w.heap.size, i, none⟩) (by dsimp only; omega)).trans (hkf i)
    have B0 := (hB2.cell (p := ⟨w.heap.size + 1, 0, none⟩) (by dsimp only; omega)).trans (hk1 0 (.int .i64 0) rfl)
    have B1 := (hB2.cell (p := ⟨w.heap.size + 1, 1, none⟩) (by dsimp only; omega)).trans (hk1 1 (.int .i64 0) rfl)
    have B2 := (hB2.cell (p := ⟨w.heap.size + 1, 2, none⟩) (by dsimp only; omega)).trans (hk1 2 (.int .u64 0) rfl)
    have B3 := (hB2.cell (p := ⟨w.heap.size + 1, 3, none⟩) (by dsimp only; omega)).trans (hk1 3 (.slice none 0 0) rfl)
    have BF : ∀ i, wr.frozen? ⟨w.heap.size + 1, i, none⟩ = false := fun i => (hB2.frozen (p := ⟨w.heap.size + 1, i, none⟩) (by dsimp only; omega)).trans (hkf1 i)
    have HLT : w.heap.size < wr.heap.size := by omega
    have HLT1 : w.heap.size + 1 < wr.heap.size := by omega
    have hsl := fun W => slice_l a n c ((i0 : Int) + (j : Int)) (by omega) (by omega) (n - (i0 + j)) (c - (i0 + j)) (by omega) (by omega) (i0 + j) (by omega) W
    have hsub : Sl w (partAt a c (i0 + j)) (n - (i0 + j)) (c - (i0 + j)) (l.drop (i0 + j)) := sl_part hs (i0 + j) (n - (i0 + j)) (by omega) _ (by rw [List.take_of_length_le (by simp; omega)])
    have hstep := grp_rec d f (l.drop i0) fuel' j
    simp only [List.drop_drop] at hstep
    have hcall := hnx wr _ _ _ _ (hsub.kept hBw) (by omega)
    replace hcall : Calls Tryd.prog 53 #[.slice (partAt a c (i0 + j)) (n - (i0 + j)) (c - (i0 + j)), .int .i64 ((depth : Int) + 1)] wr (NxPost (rec d (l.drop (i0 + j))) wr) := hcall
    clear hk hk1 hkf hkf1 hs00
    cases hu : uv (l.drop (i0 + j)) with
    | er x =>
      have hx : 101 ≤ x := by have := uv_er hu; omega
      have HG : Hid (res = .er x) := Lib.hid (by rw [hgp.out, hstep]; unfold readTag; rw [hu])
      clear hgp hstep hcall
      go_wp2_with fail
      refine (ur_no _ _ _ _ _ (hsub.kept hBw) x hu).mono ?_
      clear hu
      rintro e w2 ⟨rfl, rfl⟩
      go_wp2_with fail
      refine bodyPost_ret (v := .tuple #[zeroRV, .int .i64 0, .int .i64 (x : Int)]) (by simp [results, Tryd.results72, go_sem, A0, A1, A2, A3, AF, B0, B1, B2, B3, BF, HLT, HLT1]) rfl ?_
      refine ⟨?_, by rw [HG.out]⟩
      (repeat (first | exact Below.refl _ _ | exact hBw | (refine Below.setCell ?_ (by first | omega | (simp; omega) | simp) _) | (refine bdN ?_ _) | (refine Below.drew ?_) | (refine Below.alloc ?_ (by first | omega | (simp; omega) | simp) _) | (refine Below.trans ?_ (hb1.mono (by simp; omega)))))
    | ok p =>
      obtain ⟨u, m⟩ := p
      have hub := uv_ok hu
      simp only [List.length_drop] at hub
      have hu8 := hub.2.2.2
      have hm1 : 1 ≤ m ∧ m ≤ l.length - (i0 + j) := ⟨hub.1, hub.2.1⟩
      clear hub
      have hrt : readTag (l.drop (i0 + j)) = match untag u with
          | .er c => .er c
          | .ok (f', k) => .ok (f', k, m) := by unfold readTag; rw [hu]; simp only; cases untag u with | er c => rfl | ok q => obtain ⟨f2, k2⟩ := q; rfl
      cases ht : untag u with
      | er x =>
        rw [ht] at hrt
        have hx3 : x = 103 := by rcases untag_cases u with ⟨h0, _⟩ | ⟨h0, _⟩ <;> rw [h0] at ht <;> cases ht; rfl
        subst hx3
        have HG : Hid (res = .er 103) := Lib.hid (by rw [hgp.out, hstep, hrt])
        have hrc : rec d (l.drop (i0 + j)) = .er 103 := by unfold rec; rw [hrt]
        rw [hrc] at hcall
        have HC := Lib.hid hcall
        clear hgp hstep hcall hrt hrc
        go_wp2_with fail
        refine (ur_yes _ _ _ _ _ (hsub.kept hBw) u m hu).mono ?_
        clear hu
        rintro e w2 ⟨rfl, rfl⟩
        go_wp2_with fail
        refine (untagr_er u hu8 103 ht _).mono ?_
        clear ht
        rintro e w2 ⟨rfl, rfl, _⟩
        go_wp2_with fail
        refine HC.out.mono ?_
        rintro e w' ⟨hb1, rfl⟩
        have hz1 := hb1.size
        have a0 := (hb1.cell (p := ⟨w.heap.size, 0, none⟩) (by dsimp only; omega)).trans A0
        have a1 := (hb1.cell (p := ⟨w.heap.size, 1, none⟩) (by dsimp only; omega)).trans A1
        have a2 := (hb1.cell (p := ⟨w.heap.size, 2, none⟩) (by dsimp only; omega)).trans A2
        have a3 := (hb1.cell (p := ⟨w.heap.size, 3, none⟩) (by dsimp only; omega)).trans A3
        have af : ∀ i, w'.frozen? ⟨w.heap.size, i, none⟩ = false := fun i => (hb1.frozen (p := ⟨w.heap.size, i, none⟩) (by dsimp only; omega)).trans (AF i)
        have b0 := (hb1.cell (p := ⟨w.heap.size + 1, 0, none⟩) (by dsimp only; omega)).trans B0
        have b1 := (hb1.cell (p := ⟨w.heap.size + 1, 1, none⟩) (by dsimp only; omega)).trans B1
        have b2 := (hb1.cell (p := ⟨w.heap.size + 1, 2, none⟩) (by dsimp only; omega)).trans B2
        have b3 := (hb1.cell (p := ⟨w.heap.size + 1, 3, none⟩) (by dsimp only; omega)).trans B3
        have bf : ∀ i, w'.frozen? ⟨w.heap.size + 1, i, none⟩ = false := fun i => (hb1.frozen (p := ⟨w.heap.size + 1, i, none⟩) (by dsimp only; omega)).trans (BF i)
        have hlt : w.heap.size < w'.heap.size := by omega
        have hlt1 : w.heap.size + 1 < w'.heap.size := by omega
        clear A0 A1 A2 A3 AF B0 B1 B2 B3 BF
        go_wp2_with fail
        refine bodyPost_ret (v := .tuple #[zeroRV, .int .i64 0, .int .i64 103]) (by simp [results, Tryd.results72, go_sem, a0, a1, a2, a3, af, b0, b1, b2, b3, bf, hlt, hlt1]) rfl ?_
        refine ⟨?_, by rw [HG.out]; try rfl⟩
        (repeat (first | exact Below.refl _ _ | exact hBw | exact hBw.trans (hb1.mono (by omega)) | (refine Below.setCell ?_ (by first | omega | (simp; omega) | simp) _) | (refine bdN ?_ _) | (refine Below.drew ?_) | (refine Below.alloc ?_ (by first | omega | (simp; omega) | simp) _) | (refine Below.trans ?_ (hb1.mono (by simp; omega)))))
      | ok q =>
        obtain ⟨f', k⟩ := q
        rw [ht] at hrt
        simp only at hrt
        rw [hrt] at hstep
        simp only at hstep
        have hfk := untag_ok' ht
        have hf' : f' ≤ 536870911 := hfk.2.1
        clear hfk
        by_cases hk4 : k = 4
        · subst hk4
          by_cases hff : f' = f
          · subst hff
            have HG : Hid (res = .ok (0, (l.drop i0).take j, j + m)) := Lib.hid (by rw [hgp.out, hstep]; simp)
            have hs2 := fun W => slice_lh a n c (i0 : Int) ((i0 : Int) + (j : Int)) (by omega) (by omega) (by omega) j (c - i0) (by omega) (by omega) i0 (by omega) W
            have hsub2 : Sl w (partAt a c i0) j (c - i0) ((l.drop i0).take j) := sl_part hs i0 j (by omega) _ rfl
            clear hgp hstep hcall hrt
            go_wp2_with fail
            refine (ur_yes _ _ _ _ _ (hsub.kept hBw) u m hu).mono ?_
            clear hu
            rintro e w2 ⟨rfl, rfl⟩
            go_wp2_with fail
            refine (untagr_yes u hu8 f' 4 ht _).mono ?_
            clear ht
            rintro e w2 ⟨rfl, rfl⟩
            go_wp2_with fail
            refine (bytes_any _ _ _ _ _ (hsub2.kept hBw) (by omega)).mono ?_
            rintro e w' ⟨ax, Nx, cx, rfl, hNx, hox, hb1⟩
            have hz1 := hb1.size
            have a0 := (hb1.cell (p := ⟨w.heap.size, 0, none⟩) (by dsimp only; omega)).trans A0
            have a1 := (hb1.cell (p := ⟨w.heap.size, 1, none⟩) (by dsimp only; omega)).trans A1
            have a2 := (hb1.cell (p := ⟨w.heap.size, 2, none⟩) (by dsimp only; omega)).trans A2
            have a3 := (hb1.cell (p := ⟨w.heap.size, 3, none⟩) (by dsimp only; omega)).trans A3
            have af : ∀ i, w'.frozen? ⟨w.heap.size, i, none⟩ = false := fun i => (hb1.frozen (p := ⟨w.heap.size, i, none⟩) (by dsimp only; omega)).trans (AF i)
            have b0 := (hb1.cell (p := ⟨w.heap.size + 1, 0, none⟩) (by dsimp only; omega)).trans B0
            have b1 := (hb1.cell (p := ⟨w.heap.size + 1, 1, none⟩) (by dsimp only; omega)).trans B1
            have b2 := (hb1.cell (p := ⟨w.heap.size + 1, 2, none⟩) (by dsimp only; omega)).trans B2
            have b3 := (hb1.cell (p := ⟨w.heap.size + 1, 3, none⟩) (by dsimp only; omega)).trans B3
            have bf : ∀ i, w'.frozen? ⟨w.heap.size + 1, i, none⟩ = false := fun i => (hb1.frozen (p := ⟨w.heap.size + 1, i, none⟩) (by dsimp only; omega)).trans (BF i)
            have hlt : w.heap.size < w'.heap.size := by omega
            have hlt1 : w.heap.size + 1 < w'.heap.size := by omega
            clear A0 A1 A2 A3 AF B0 B1 B2 B3 BF
            go_wp2_with fail
            refine bodyPost_ret (v := .tuple #[recV (f' : Int) 3 0 ax Nx cx, .int .i64 ((i0 + (j + m) : Nat) : Int), .int .i64 0]) (by simp [Int.add_assoc, results, Tryd.results72, go_sem, a0, a1, a2, a3, af, b0, b1, b2, b3, bf, hlt, hlt1]) rfl ?_
            refine ⟨?_, ?_⟩
            · (repeat (first | exact Below.refl _ _ | exact hBw | exact hBw.trans (hb1.mono (by omega)) | (refine Below.setCell ?_ (by first | omega | (simp; omega) | simp) _) | (refine bdN ?_ _) | (refine Below.drew ?_) | (refine Below.alloc ?_ (by first | omega | (simp; omega) | simp) _) | (refine Below.trans ?_ (hb1.mono (by simp; omega)))))
            · rw [HG.out]
              refine ⟨_, _, _, rfl, ?_⟩
              refine Own.mono (B := wr.heap.size) ?_ (by omega)
              exact (ownsRow_setCell_below (ownsRow_setCell_below (ownsRow_setCell_below (ownsRow_setCell_below (ownsRow_setCell_below hox (by simp <;> omega) _) (by simp <;> omega) _) (by simp <;> omega) _) (by simp <;> omega) _) (by simp <;> omega) _)
          · have hfb : ((f' : Int) == (f : Int)) = false := by rw [beq_eq_false_iff_ne]; omega
            have hrc : rec d (l.drop (i0 + j)) = .er 104 := by unfold rec; rw [hrt]; simp only [body4]
            have HG : Hid (res = .er 104) := Lib.hid (by rw [hgp.out, hstep, if_neg (by simp [hff]), hrc])
            rw [hrc] at hcall
            have HC := Lib.hid hcall
            clear hgp hstep hcall hrt hrc
            go_wp2_with fail
            refine (ur_yes _ _ _ _ _ (hsub.kept hBw) u m hu).mono ?_
            clear hu
            rintro e w2 ⟨rfl, rfl⟩
            go_wp2_with fail
            refine (untagr_yes u hu8 f' 4 ht _).mono ?_
            clear ht
            rintro e w2 ⟨rfl, rfl⟩
            go_wp2_with fail
            refine HC.out.mono ?_
            rintro e w' ⟨hb1, rfl⟩
            have hz1 := hb1.size
            have a0 := (hb1.cell (p := ⟨w.heap.size, 0, none⟩) (by dsimp only; omega)).trans A0
            have a1 := (hb1.cell (p := ⟨w.heap.size, 1, none⟩) (by dsimp only; omega)).trans A1
            have a2 := (hb1.cell (p := ⟨w.heap.size, 2, none⟩) (by dsimp only; omega)).trans A2
            have a3 := (hb1.cell (p := ⟨w.heap.size, 3, none⟩) (by dsimp only; omega)).trans A3
            have af : ∀ i, w'.frozen? ⟨w.heap.size, i, none⟩ = false := fun i => (hb1.frozen (p := ⟨w.heap.size, i, none⟩) (by dsimp only; omega)).trans (AF i)
            have b0 := (hb1.cell (p := ⟨w.heap.size + 1, 0, none⟩) (by dsimp only; omega)).trans B0
            have b1 := (hb1.cell (p := ⟨w.heap.size + 1, 1, none⟩) (by dsimp only; omega)).trans B1
            have b2 := (hb1.cell (p := ⟨w.heap.size + 1, 2, none⟩) (by dsimp only; omega)).trans B2
            have b3 := (hb1.cell (p := ⟨w.heap.size + 1, 3, none⟩) (by dsimp only; omega)).trans B3
            have bf : ∀ i, w'.frozen? ⟨w.heap.size + 1, i, none⟩ = false := fun i => (hb1.frozen (p := ⟨w.heap.size + 1, i, none⟩) (by dsimp only; omega)).trans (BF i)
            have hlt : w.heap.size < w'.heap.size := by omega
            have hlt1 : w.heap.size + 1 < w'.heap.size := by omega
            clear A0 A1 A2 A3 AF B0 B1 B2 B3 BF
            go_wp2_with fail
            refine bodyPost_ret (v := .tuple #[zeroRV, .int .i64 0, .int .i64 104]) (by simp [results, Tryd.results72, go_sem, a0, a1, a2, a3, af, b0, b1, b2, b3, bf, hlt, hlt1]) rfl ?_
            refine ⟨?_, by rw [HG.out]; try rfl⟩
            (repeat (first | exact Below.refl _ _ | exact hBw | exact hBw.trans (hb1.mono (by omega)) | (refine Below.setCell ?_ (by first | omega | (simp; omega) | simp) _) | (refine bdN ?_ _) | (refine Below.drew ?_) | (refine Below.alloc ?_ (by first | omega | (simp; omega) | simp) _) | (refine Below.trans ?_ (hb1.mono (by simp; omega)))))
        · have hkb : ((k : Int) == 4) = false := by rw [beq_eq_false_iff_ne]; omega
          have hne : ¬ (k = 4 ∧ f' = f) := fun h => hk4 h.1
          rw [if_neg hne] at hstep
          cases hrc : rec d (l.drop (i0 + j)) with
          | er x =>
            have HG : Hid (res = .er x) := Lib.hid (by rw [hgp.out, hstep, hrc])
            rw [hrc] at hcall
            have hx := rec_er hrc
            have HC := Lib.hid hcall
            clear hgp hstep hcall hrt hrc
            go_wp2_with fail
            refine (ur_yes _ _ _ _ _ (hsub.kept hBw) u m hu).mono ?_
            clear hu
            rintro e w2 ⟨rfl, rfl⟩
            go_wp2_with fail
            refine (untagr_yes u hu8 f' k ht _).mono ?_
            clear ht
            rintro e w2 ⟨rfl, rfl⟩
            go_wp2_with fail
            refine HC.out.mono ?_
            rintro e w' ⟨hb1, rfl⟩
            have hz1 := hb1.size
            have a0 := (hb1.cell (p := ⟨w.heap.size, 0, none⟩) (by dsimp only; omega)).trans A0
            have a1 := (hb1.cell (p := ⟨w.heap.size, 1, none⟩) (by dsimp only; omega)).trans A1
            have a2 := (hb1.cell (p := ⟨w.heap.size, 2, none⟩) (by dsimp only; omega)).trans A2
            have a3 := (hb1.cell (p := ⟨w.heap.size, 3, none⟩) (by dsimp only; omega)).trans A3
            have af : ∀ i, w'.frozen? ⟨w.heap.size, i, none⟩ = false := fun i => (hb1.frozen (p := ⟨w.heap.size, i, none⟩) (by dsimp only; omega)).trans (AF i)
            have b0 := (hb1.cell (p := ⟨w.heap.size + 1, 0, none⟩) (by dsimp only; omega)).trans B0
            have b1 := (hb1.cell (p := ⟨w.heap.size + 1, 1, none⟩) (by dsimp only; omega)).trans B1
            have b2 := (hb1.cell (p := ⟨w.heap.size + 1, 2, none⟩) (by dsimp only; omega)).trans B2
            have b3 := (hb1.cell (p := ⟨w.heap.size + 1, 3, none⟩) (by dsimp only; omega)).trans B3
            have bf : ∀ i, w'.frozen? ⟨w.heap.size + 1, i, none⟩ = false := fun i => (hb1.frozen (p := ⟨w.heap.size + 1, i, none⟩) (by dsimp only; omega)).trans (BF i)
            have hlt : w.heap.size < w'.heap.size := by omega
            have hlt1 : w.heap.size + 1 < w'.heap.size := by omega
            clear A0 A1 A2 A3 AF B0 B1 B2 B3 BF
            go_wp2_with fail
            refine bodyPost_ret (v := .tuple #[zeroRV, .int .i64 0, .int .i64 (x : Int)]) (by simp [results, Tryd.results72, go_sem, a0, a1, a2, a3, af, b0, b1, b2, b3, bf, hlt, hlt1]) rfl ?_
            refine ⟨?_, by rw [HG.out]; try rfl⟩
            (repeat (first | exact Below.refl _ _ | exact hBw | exact hBw.trans (hb1.mono (by omega)) | (refine Below.setCell ?_ (by first | omega | (simp; omega) | simp) _) | (refine bdN ?_ _) | (refine Below.drew ?_) | (refine Below.alloc ?_ (by first | omega | (simp; omega) | simp) _) | (refine Below.trans ?_ (hb1.mono (by simp; omega)))))
          | ok q =>
            obtain ⟨r, s⟩ := q
            have hro := rec_ok hrc
            rw [List.length_drop] at hro
            have hsn : 1 ≤ s ∧ s ≤ l.length - (i0 + j) := ⟨hro.1, hro.2.1⟩
            have HG : Hid (res = grp (body d) f (l.drop i0) fuel' (j + s)) := Lib.hid (by rw [hgp.out, hstep, hrc])
            rw [hrc] at hcall
            have HC := Lib.hid hcall
            clear hgp hstep hcall hrt hrc hro
            go_wp2_with fail
            refine (ur_yes _ _ _ _ _ (hsub.kept hBw) u m hu).mono ?_
            clear hu
            rintro e w2 ⟨rfl, rfl⟩
            go_wp2_with fail
            refine (untagr_yes u hu8 f' k ht _).mono ?_
            clear ht
            rintro e w2 ⟨rfl, rfl⟩
            go_wp2_with fail
            refine HC.out.mono ?_
            rintro e w' ⟨hb1, ax, mx, cx, rfl, hox⟩
            have hz1 := hb1.size
            clear A0 A1 A2 A3 AF B0 B1 B2 B3 BF
            go_wp2_with fail
            refine ⟨⟨j + s, by go_num, by omega, ⟨fuel', by rw [List.length_drop]; omega, HG⟩, ?_⟩, by simp [intOf]; omega⟩
            have hq : Below (w.heap.size + 1 + 1) W0 w' := hB2.trans (hb1.mono (by omega))
            (repeat (first | exact hq | (refine Below.setCell ?_ (by first | omega | (simp; omega) | simp) _) | (refine bdN ?_ _) | (refine Below.drew ?_) | (refine Below.alloc ?_ (by first | omega | (simp; omega) | simp) _)))

theorem nextr_all : ∀ (d depth : Nat), d + depth = 32 → NextR d depth ∧ GroupR d depth
  | 0, depth, h => by
    obtain rfl : depth = 32 := by omega
    refine ⟨?_, groupr_zero⟩
    intro w a n c l hs hn
    exact nextr_of groupr_zero w a n c l hs hn
  | d + 1, depth, h => by
    have hg := groupr_succ d depth (by omega) (nextr_all d (depth + 1) (by omega)).1
    exact ⟨nextr_of hg, hg⟩

end Go.Proofs.YtclnmajjkchfmaaDoor
