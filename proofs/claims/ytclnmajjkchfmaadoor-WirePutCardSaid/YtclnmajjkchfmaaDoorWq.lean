/-
  CONTRACTS: the document's Check.
-/
import Derived.Test.YtclnmajjkchfmaaDoorWp
namespace Go.Proofs.YtclnmajjkchfmaaDoor
open Go.RowKit Wr

/-- What the document's Check answers. -/
def ChkdPost (r : Option (Nat × Nat)) (w : World) (e : Ending) (w' : World) : Prop := match r with
  | none => e = .returned (bareV 0) ∧ Below w.heap.size w w'
  | some (i, k) => PlPost (k : Int) (i : Int) w e w'
/-- Its rounds. -/
def ChkdRel (l : List UInt8) (w : World) (res : Option (Nat × Nat)) (s3 : Value) (wr : World) : Prop := ∃ i fuel : Nat, s3 = .int .i64 (i : Int) ∧ i ≤ l.length ∧ l.length + 1 ≤ fuel + i ∧ Hid (res = chk 32 l fuel i) ∧
  Below (w.heap.size + 1) (w.alloc (.cells #[.int .i64 0, .int .i64 0, .int .i64 0, .slice none 0 0] 64)) wr
set_option maxRecDepth 100000 in
set_option maxHeartbeats 4000000 in
theorem checkd_any (a : Option Addr) (n c : Nat) (l : List UInt8) (w : World) (hs : Sl w a n c l) (hn : n ≤ 140737488355328) :
    Calls Tryd.prog 38 #[.slice a n c] w (ChkdPost (check l) w) := by
  have hlen := hs.len
  have hle := hs.le
  generalize hR : check l = res
  have HR : Hid (res = chk 32 l (l.length + 1) 0) := Lib.hid hR.symm
  clear hR
  have hBw0 : Below w.heap.size w (w.alloc (.cells #[.int .i64 0, .int .i64 0, .int .i64 0, .slice none 0 0] 64)) := (Below.refl _ _).alloc (Nat.le_refl _) _
  go_enter Tryd.func38, Tryd.ntmps38
  go_wp2
  go_loopw [3] (fun s3 wr => ChkdRel l w res s3 wr) (fun s3 _ => l.length + 1 - (intOf s3).toNat)
  case atStart => exact ⟨0, l.length + 1, rfl, by omega, by omega, HR, Below.refl _ _⟩
  case round =>
    obtain ⟨i, fuel, rfl, hi, hfu, hch, hB2⟩ := hrel
    have hz2 := hB2.size
    simp only [World.size_alloc] at hz2
    have hBw : Below w.heap.size w wr := hBw0.trans (hB2.mono (by omega))
    have K0 := hB2.cell (p := ⟨w.heap.size, 0, none⟩) (by simp)
    have K1 := hB2.cell (p := ⟨w.heap.size, 1, none⟩) (by simp)
    have K2 := hB2.cell (p := ⟨w.heap.size, 2, none⟩) (by simp)
    have K3 := hB2.cell (p := ⟨w.heap.size, 3, none⟩) (by simp)
    have KF := fun i => hB2.frozen (p := ⟨w.heap.size, i, none⟩) (by simp)
    simp [go_sem] at K0 K1 K2 K3 KF
    by_cases hlt : i < n
    · obtain ⟨fuel', rfl⟩ : ∃ q, fuel = q + 1 := ⟨fuel - 1, by omega⟩
      have hsl := fun W => slice_l a n c (i : Int) (by omega) (by omega) (n - i) (c - i) (by omega) (by omega) i (by omega) W
      have hsub : Sl w (partAt a c i) (n - i) (c - i) (l.drop i) := sl_part hs i (n - i) (by omega) _ (by rw [List.take_of_length_le (by simp; omega)])
      have hnx := nextd_any _ _ _ _ _ (hsub.kept hBw) (by omega)
      have hstep : res = match rec 32 (l.drop i) with
          | .er k => some (i, k)
          | .ok (_, m) => chk 32 l fuel' (i + m) := by rw [hch.out, chk, if_pos (by omega)]; rfl
      clear hch hsub
      cases hr : rec 32 (l.drop i) with
      | er k =>
        rw [hr] at hnx hstep
        simp only at hstep
        have hk := rec_er hr
        subst hstep
        have HN := Lib.hid hnx; clear hnx hr
        go_wp2_with fail
        refine HN.out.mono ?_
        rintro e w1 ⟨hb1, rfl⟩
        have hz1 := hb1.size
        have HQ := fun W => placed_any k hk (i : Int) W
        have HP := Lib.hid HQ; clear HQ
        have q0 := (hb1.cell (p := ⟨w.heap.size, 0, none⟩) (by dsimp only; omega)).trans K0
        have q1 := (hb1.cell (p := ⟨w.heap.size, 1, none⟩) (by dsimp only; omega)).trans K1
        have q2 := (hb1.cell (p := ⟨w.heap.size, 2, none⟩) (by dsimp only; omega)).trans K2
        have q3 := (hb1.cell (p := ⟨w.heap.size, 3, none⟩) (by dsimp only; omega)).trans K3
        have qf : ∀ i, w1.frozen? ⟨w.heap.size, i, none⟩ = false := fun i => (hb1.frozen (p := ⟨w.heap.size, i, none⟩) (by dsimp only; omega)).trans (KF i)
        clear K0 K1 K2 K3 KF
        have hl1 : w.heap.size < w1.heap.size := by omega
        go_wp2_with fail
        refine (HP.out _).mono ?_
        rintro e w3 ⟨g, rfl, hg, hgs, hb3⟩
        have hz3 := hb3.size
        simp only [World.size_alloc] at hz3 hgs
        have hb13 : Below w1.heap.size w1 w3 := ((Below.refl _ w1).alloc (Nat.le_refl _) _).trans (hb3.mono (by simp))
        have r0 := (hb13.cell (p := ⟨w.heap.size, 0, none⟩) hl1).trans q0
        have r1 := (hb13.cell (p := ⟨w.heap.size, 1, none⟩) hl1).trans q1
        have r2 := (hb13.cell (p := ⟨w.heap.size, 2, none⟩) hl1).trans q2
        have r3 := (hb13.cell (p := ⟨w.heap.size, 3, none⟩) hl1).trans q3
        have rf : ∀ i, w3.frozen? ⟨w.heap.size, i, none⟩ = false := fun i => (hb13.frozen (p := ⟨w.heap.size, i, none⟩) hl1).trans (qf i)
        have hl3 : w.heap.size < w3.heap.size := by omega
        have hgn : ¬ g = w.heap.size := by omega
        have hgn' : ¬ w.heap.size = g := by omega
        have hBf : Below w.heap.size w w3 := (hBw.trans (hb1.mono (by omega))).trans (hb13.mono (by omega))
        clear q0 q1 q2 q3 qf
        go_wp2_with fail
        refine bodyPost_ret (v := .agg #[.int .i64 (k : Int), .int .i64 0, .int .i64 0, .slice (some ⟨g, 0, none⟩) 1 1]) (by simp [results, Tryd.results38, go_sem, r0, r1, r2, r3, rf, hl3]) rfl ?_
        refine ⟨g, rfl, by simp [go_sem, hg, hgn, hgn'], by omega, ?_⟩
        (repeat (first | exact hBf | (refine Below.setCell ?_ (by first | omega | (simp; omega) | simp) _)))
      | ok p =>
        obtain ⟨r, m⟩ := p
        have hro := rec_ok hr
        rw [List.length_drop] at hro
        have hm : 1 ≤ m ∧ m ≤ l.length - i := ⟨hro.1, hro.2.1⟩
        rw [hr] at hnx hstep
        simp only at hstep
        have HS := Lib.hid hstep
        have HN := Lib.hid hnx; clear hnx hr hro hstep
        go_wp2_with fail
        refine HN.out.mono ?_
        rintro e w1 ⟨hb1, a1, m1, c1, rfl, hs1⟩
        have hz1 := hb1.size
        clear K0 K1 K2 K3 KF
        go_wp2_with fail
        refine ⟨⟨i + m, fuel', by go_num, by omega, by omega, HS, ?_⟩, by simp [intOf]; omega⟩
        exact (hB2.trans (hb1.mono (by omega))).alloc (by omega) _
    · have HG : Hid (res = none) := Lib.hid (by rw [hch.out, chk_end (by omega)])
      clear hch
      have HN := Lib.hid (none_any wr)
      go_wp2_with fail
      refine HN.out.mono ?_
      rintro e w3 ⟨rfl, hb3⟩
      have hz3 := hb3.size
      have r0 := (hb3.cell (p := ⟨w.heap.size, 0, none⟩) (by dsimp only; omega)).trans K0
      have r1 := (hb3.cell (p := ⟨w.heap.size, 1, none⟩) (by dsimp only; omega)).trans K1
      have r2 := (hb3.cell (p := ⟨w.heap.size, 2, none⟩) (by dsimp only; omega)).trans K2
      have r3 := (hb3.cell (p := ⟨w.heap.size, 3, none⟩) (by dsimp only; omega)).trans K3
      have rf : ∀ i, w3.frozen? ⟨w.heap.size, i, none⟩ = false := fun i => (hb3.frozen (p := ⟨w.heap.size, i, none⟩) (by dsimp only; omega)).trans (KF i)
      have hl3 : w.heap.size < w3.heap.size := by omega
      have hBf : Below w.heap.size w w3 := hBw.trans (hb3.mono (by omega))
      clear K0 K1 K2 K3 KF
      go_wp2_with fail
      refine bodyPost_ret (v := bareV 0) (by simp [results, Tryd.results38, go_sem, r0, r1, r2, r3, rf, hl3]) rfl ?_
      rw [HG.out]
      refine ⟨rfl, ?_⟩
      (repeat (first | exact hBf | (refine Below.setCell ?_ (by first | omega | (simp; omega) | simp) _)))
end Go.Proofs.YtclnmajjkchfmaaDoor
