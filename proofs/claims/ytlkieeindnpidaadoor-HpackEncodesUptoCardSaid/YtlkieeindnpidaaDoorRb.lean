/-
  CONTRACTS and PLAIN MATHEMATICS: Size of a list, Decode of a decoder that takes nothing more; a list is read back of its block (P4.8), what a reading holds at most (P4.6); the laws' light, the document's Headers; stores into rows of the call's own.
-/
import Derived.Test.YtlkieeindnpidaaDoorT
import Derived.Test.YtlkieeindnpidaaDoorTb
namespace Go.Proofs.YtlkieeindnpidaaDoor
open Go.RowKit Go.Shelf Tt Hu Hu.Hf

/-- The size of a list. -/
def sumN (L : List Hn) : Nat := (L.map fun h => sizeH h.1).sum
theorem sumN_take (L : List Hn) {i : Nat} (h : i < L.length) : sumN (L.take (i + 1)) = sumN (L.take i) + sizeH (L[i]).1 := by
  have e : L.take (i + 1) = L.take i ++ [L[i]] := by rw [List.take_add_one, List.getElem?_eq_getElem h]; rfl
  unfold sumN
  rw [e, List.map_append, List.sum_append_nat]
  simp
theorem sumN_mono (L : List Hn) (i : Nat) : sumN (L.take i) ≤ sumN L := by
  have h : sumN L = sumN (L.take i) + sumN (L.drop i) := by
    unfold sumN
    rw [← List.sum_append_nat, ← List.map_append, List.take_append_drop]
  omega
set_option maxRecDepth 100000 in
set_option maxHeartbeats 2000000 in
theorem sizeL_any (a : Option Addr) (n c : Nat) (L : List Hn) (w : World) (h : Ns w a n c L) (hs : sumN L ≤ 100000000000000) :
    Calls Tryd.prog 32 #[.slice a n c] w fun e w' => e = .returned (.int .i64 (sumN L : Int)) ∧ Below w.heap.size w w' := by
  have hl := h.len
  have hm := h.max
  have hle := h.le
  unfold maxLen at hm
  have H := Lib.hid h
  have HL := Lib.hid hl
  clear h hl
  go_enter Tryd.func32, Tryd.ntmps32
  go_wp2_with fail
  go_loopw [3, 8] (fun s3 s8 wr => ∃ i : Nat, s8 = .int .i64 (i : Int) ∧ i ≤ n ∧ s3 = .int .i64 ((sumN (L.take i) : Nat) : Int) ∧ Below w.heap.size w wr) (fun _ s8 _ => n - (intOf s8).toNat)
  case atStart => exact ⟨0, rfl, by omega, by simp [sumN], Below.refl _ _⟩
  case round =>
    obtain ⟨i, rfl, hi, rfl, hB⟩ := hrel
    by_cases hlt : i < n
    · have hli : i < L.length := by rw [HL.out]; exact hlt
      obtain ⟨b, o, rfl, e0, e1, e2⟩ := (H.out.kept hB).row i hli
      have hst := sumN_take L hli
      have hmo := sumN_mono L (i + 1)
      generalize L[i] = h at e0 e1 e2 hst
      have hsz : h.1.1.size + h.1.2.size ≤ sizeH h.1 := by unfold sizeH; omega
      have HST := Lib.hid hst
      generalize hx : sumN (L.take (i + 1)) = x at hst hmo HST
      generalize sumN (L.take i) = y at hst HST
      have HSZ := Lib.hid (fun W => sizeOf_any h.1 h.2 W (by omega) (by omega))
      have HX := Lib.hid hx
      have hia : (0 : Int) ≤ (i : Int) := by omega
      have hib : (i : Int) < (n : Int) := by omega
      generalize hz : sizeH h.1 = z at hst HST HSZ hsz
      clear hx hz
      go_wp2_with fail
      refine (HSZ.out _).mono ?_
      rintro e w6 ⟨rfl, rfl⟩
      go_wp2_with fail
      refine ⟨⟨i + 1, by go_num, by omega, by rw [HX.out, HST.out]; go_num, ((hB.alloc hB.size _).alloc (by have := hB.size; simp; omega) _)⟩, by simp [intOf]; omega⟩
    · have hin : i = n := by omega
      subst hin
      have ht : L.take i = L := List.take_of_length_le (by rw [HL.out]; omega)
      rw [ht]
      go_wp2_with fail
      go_ret
      exact ⟨rfl, hB⟩

set_option maxRecDepth 100000 in
set_option maxHeartbeats 2000000 in
theorem decode_gone (E : Nat → Value) (d : Nat) (s : Value) (w : World) {k : Nat} (h : Dead w d k) (hE : Env w E) (hX : Errs E) :
    Calls Tryd.prog 36 #[.pointer (some ⟨d, 0, none⟩), s] w fun e w' => e = .returned (.tuple #[.slice none 0 0, E 115]) ∧ Below w.heap.size w w' := by
  have hb0 : Below w.heap.size w (((w.alloc (.cells #[.pointer (some ⟨d, 0, none⟩)] 61)).alloc (.cells #[.slice none 0 0] 50)).alloc (.cells #[.nilIface] 29)) := (((Below.refl _ w).alloc (Nat.le_refl _) _).alloc (by simp) _).alloc (by simp; omega) _
  have x0 := ((Boxed.new w 61 (.pointer (some ⟨d, 0, none⟩))).alloc (.cells #[.slice none 0 0] 50)).alloc (.cells #[.nilIface] 29)
  have x1 := (Boxed.new (w.alloc (.cells #[.pointer (some ⟨d, 0, none⟩)] 61)) 50 (.slice none 0 0)).alloc (.cells #[.nilIface] 29)
  have x2 := Boxed.new ((w.alloc (.cells #[.pointer (some ⟨d, 0, none⟩)] 61)).alloc (.cells #[.slice none 0 0] 50)) 29 .nilIface
  simp only [World.size_alloc] at x1 x2
  have hz0 : (((w.alloc (.cells #[.pointer (some ⟨d, 0, none⟩)] 61)).alloc (.cells #[.slice none 0 0] 50)).alloc (.cells #[.nilIface] 29)).heap.size = w.heap.size + 1 + 1 + 1 := by simp
  have hdl : d < w.heap.size := Hu.cell_lt h.c0
  have c115 := (hE.kept hb0).c115
  obtain ⟨ty, p, hx⟩ := hX 115
  rw [hx] at c115 ⊢
  clear hX
  have c0 := (hb0.cell (p := ⟨d, 0, none⟩) hdl).trans h.c0
  generalize hw0 : ((w.alloc (.cells #[.pointer (some ⟨d, 0, none⟩)] 61)).alloc (.cells #[.slice none 0 0] 50)).alloc (.cells #[.nilIface] 29) = w0 at hb0 x0 x1 x2 hz0 c115 c0
  have k0 := x0.cell
  have k1 := x1.cell
  have k2 := x2.cell
  have f1 := x1.frozen
  have f2 := x2.frozen
  clear x0 x1 x2 h hE
  have HW0 := Lib.hid hw0
  have HB0 := Lib.hid hb0
  generalize hH : w.heap.size = H at k0 k1 k2 f1 f2 hz0 hdl
  have HHS := Lib.hid hH
  clear hb0 hw0 hH
  go_enter_defers Tryd.func36, Tryd.ntmps36
  go_upto_region 1 with fail
  rw [HW0.out]
  simp only [HHS.out]
  have n1 : ¬ H = H + 1 := by omega
  have n2 : ¬ H + 1 = H + 1 + 1 := by omega
  go_wp2_with fail
  have m1 : ¬ H + 1 = H := by omega
  have m2 : ¬ H + 1 + 1 = H := by omega
  have m3 : ¬ H + 1 + 1 = H + 1 := by omega
  go_region
  all_goals go_wp2
  have hBe : Below H w ((w0.setCell ⟨H + 1, 0, none⟩ (.slice none 0 0)).setCell ⟨H + 1 + 1, 0, none⟩ (.iface ty p)).drew := by
    have h1 := HB0.out
    rw [HHS.out] at h1
    exact ((h1.setCell (by dsimp only; omega) _).setCell (by dsimp only; omega) _).drew
  simp [bodyPostD, Leaves, settle, results, Tryd.results36, go_sem, k1, k2, m3, n2]
  exact hBe
end Go.Proofs.YtlkieeindnpidaaDoor

namespace Go.Proofs.YtlkieeindnpidaaDoor
open Go.RowKit Tt Hu Hu.Hf

theorem getText_back (s : ByteArray) (hs : s.size ≤ 16384) (b : List UInt8) : getText (ptext s ++ b) = .ok (s, (ptext s).length) := by
  unfold ptext
  by_cases hz' : hz s < s.size
  · rw [if_pos hz']
    have hel : (enc (str s)).length = hz s := enc_length _
    obtain ⟨x, hx, hxl⟩ := pint_first (f := 128) (k := 7) (n := hz s) (by omega) (enc (str s) ++ b)
    unfold getText
    rw [List.append_assoc, getInt_pre (by omega) (by decide) (by omega) (by omega)]
    simp only
    rw [if_neg (by omega), if_neg (by simp only [List.length_append]; omega), if_neg (by rw [hx]; omega), List.drop_left, List.take_left' hel, says_of_enc]
    simp only [List.length_append, str_back, hel]
  · rw [if_neg hz']
    have hel : (str s).length = s.size := str_len s
    obtain ⟨x, hx, hxl⟩ := pint_first (f := 0) (k := 7) (n := s.size) (by omega) (str s ++ b)
    unfold getText
    rw [List.append_assoc, getInt_pre (by omega) (by decide) (by omega) (by omega)]
    simp only
    rw [if_neg (by omega), if_neg (by simp only [List.length_append]; omega), if_pos (by rw [hx]; omega), List.drop_left, List.take_left' hel]
    simp only [List.length_append, str_back, hel]
theorem numS_pre {f k n : Nat} (h1 : 1 ≤ k) (hf : f % 2 ^ k = 0) (hs : f + 2 ^ k ≤ 256) (hn : n ≤ 2147483647) {s : RS} {b : List UInt8} (h : s.left = pint f k n ++ b) : numS k s = .ok (n, { s with left := b }) := by
  unfold numS
  rw [h, getInt_pre h1 hf hs hn]
  simp only [List.drop_left]
theorem textS_back {t : ByteArray} (ht : t.size ≤ 16384) {s : RS} {b : List UInt8} (h : s.left = ptext t ++ b) : textS s = .ok (t, { s with left := b }) := by
  unfold textS
  rw [h, getText_back t ht]
  simp only [List.drop_left]
theorem named_back {i : Nat} {h : Hd} {s : RS} {b : List UInt8} (h1 : h.1.size ≤ 16384) (h2 : h.2.size ≤ 16384) (hl : s.left = (if i = 0 then ptext h.1 else []) ++ ptext h.2 ++ b) (hg : i ≠ 0 → ∃ v, getM s.M (i : Int) = some (h.1, v)) :
    namedS i s = .ok (h, { s with left := b }) := by
  unfold namedS
  by_cases hi : i = 0
  · rw [if_pos hi] at hl ⊢
    rw [List.append_assoc] at hl
    rw [textS_back h1 hl]
    simp only
    rw [textS_back (s := { s with left := ptext h.2 ++ b }) h2 rfl]
  · rw [if_neg hi] at hl ⊢
    obtain ⟨v, hv⟩ := hg hi
    rw [hv]
    simp only
    rw [textS_back h2 (by rw [hl]; rfl)]
theorem pint_pos (f k n : Nat) : 1 ≤ (pint f k n).length := by
  unfold pint
  split <;> simp
theorem stepS_pre {limit j n : Nat} (hj : j ≤ 4) (hn : n ≤ 2147483647) {s : RS} {b : List UInt8} (h : s.left = pint (fstK j) (bitsK j) n ++ b) : stepS limit s = readK limit j n { s with left := b } := by
  have hs : fstK j + 2 ^ bitsK j ≤ 256 ∧ fstK j % 2 ^ bitsK j = 0 ∧ 1 ≤ bitsK j := by
    have : j = 0 ∨ j = 1 ∨ j = 2 ∨ j = 3 ∨ j = 4 := by omega
    rcases this with rfl | rfl | rfl | rfl | rfl <;> decide
  obtain ⟨x, hx, hxl⟩ := pint_first (f := fstK j) (k := bitsK j) (n := n) hs.1 b
  have hp := pint_pos (fstK j) (bitsK j) n
  rw [← h] at hx
  have hN := numS_pre hs.2.2 hs.2.1 hs.1 hn h
  cases hl : s.left with
  | nil => rw [hl] at h; have := congrArg List.length h; simp at this; omega
  | cons c t =>
    rw [hl, List.getD_cons_zero] at hx
    have hk : kindOf c.toNat = j := by
      rw [hx]
      have : j = 0 ∨ j = 1 ∨ j = 2 ∨ j = 3 ∨ j = 4 := by omega
      rcases this with rfl | rfl | rfl | rfl | rfl <;> simp only [fstK, bitsK] at hxl ⊢ <;> unfold kindOf <;> repeat (split <;> try omega)
    unfold stepS
    rw [hl]
    simp only
    rw [hk, hN]

theorem allL_get {M : List Hd} {y : Tt.Told} (h : y ∈ allL M) : 1 ≤ y.1 ∧ getM M (y.1 : Int) = some y.2 := by
  simp only [allL, stU, tabU, List.mem_append, List.mem_map, List.mem_range] at h
  rcases h with ⟨n, hn, rfl⟩ | ⟨n, hn, rfl⟩
  · refine ⟨by simp, ?_⟩
    unfold getM
    rw [if_pos (by simp only; omega)]
    simp only
    rw [show (((n + 1 : Nat) : Int) - 1).toNat = n by omega]
  · refine ⟨(by simp only; omega), ?_⟩
    unfold getM
    rw [if_neg (by simp only; omega), if_pos (by simp only; omega)]
    simp only
    rw [show (((62 + n : Nat) : Int) - 62).toNat = n by omega]
theorem lea_fold (name : ByteArray) : ∀ (l : List Tt.Told) (a : Nat), l.foldl (fun a x => if x.2.1 = name then (if a = 0 then x.1 else a) else a) a = a ∨ ∃ y ∈ l, y.2.1 = name ∧ y.1 = l.foldl (fun a x => if x.2.1 = name then (if a = 0 then x.1 else a) else a) a
  | [], a => Or.inl rfl
  | x :: l, a => by
    rw [List.foldl_cons]
    rcases lea_fold name l (if x.2.1 = name then (if a = 0 then x.1 else a) else a) with h | ⟨y, hy, h1, h2⟩
    · by_cases hx : x.2.1 = name
      · rw [if_pos hx] at h ⊢
        by_cases ha : a = 0
        · rw [if_pos ha] at h ⊢
          exact Or.inr ⟨x, List.mem_cons_self, hx, h.symm⟩
        · rw [if_neg ha] at h ⊢
          exact Or.inl h
      · rw [if_neg hx] at h ⊢
        exact Or.inl h
    · exact Or.inr ⟨y, List.mem_cons_of_mem _ hy, h1, h2⟩
/-- What Find answers, Get finds. -/
theorem fnd_get (n v : ByteArray) (M : List Hd) : ((fnd n v (allL M)).2 = true → getM M ((fnd n v (allL M)).1 : Int) = some (n, v)) ∧ ((fnd n v (allL M)).1 ≠ 0 → ∃ v', getM M ((fnd n v (allL M)).1 : Int) = some (n, v')) := by
  unfold fnd
  cases hf : (allL M).find? (hit n v) with
  | some x =>
    have hx := (allL_get (List.mem_of_find?_eq_some hf)).2
    have hh := List.find?_some hf
    simp only [hit, Bool.and_eq_true, decide_eq_true_eq] at hh
    obtain ⟨a, ⟨p, q⟩⟩ := x
    obtain ⟨rfl, rfl⟩ := hh
    exact ⟨fun _ => hx, fun _ => ⟨_, hx⟩⟩
  | none =>
    refine ⟨fun h => (by cases h), fun h => ?_⟩
    simp only at h ⊢
    unfold lea at h ⊢
    rcases lea_fold n (allL M) 0 with h0 | ⟨y, hy, h1, h2⟩
    · exact absurd h0 h
    · have hx := (allL_get hy).2
      obtain ⟨a, ⟨p, q⟩⟩ := y
      simp only at h1 h2 hx
      rw [← h2]
      subst h1
      exact ⟨q, hx⟩
theorem shr_id {m : Nat} {M : List Hd} (h : total M ≤ m) : shr m M = M := by
  cases M with
  | nil => rfl
  | cons g t => rw [shr, if_neg (by omega)]

theorem take_back {h : Hn} {s : RS} (hz : s.size + sizeH h.1 ≤ 16384) : takeS h s = .ok ((), { s with out := s.out ++ [h], size := s.size + sizeH h.1 }) := by
  unfold takeS
  rw [if_neg (by omega)]
theorem idx_le {n v : ByteArray} {M : List Hd} (hM : total M ≤ 4096) : (fnd n v (allL M)).1 ≤ 2147483647 := by
  have hf := fnd_le n v (61 + M.length) (allL M) (allL_le M)
  have := total_ge M
  omega
/-- A header is read back. -/
theorem step_back {limit m : Nat} {M : List Hd} {h : Hn} {s : RS} {b : List UInt8} (hM : total M ≤ 4096) (hl : s.left = (encH m M h).1 ++ b) (hm : s.m = m) (hMM : s.M = M) (hz : s.size + sizeH h.1 ≤ 16384) :
    stepS limit s = .ok ((), ⟨b, m, (encH m M h).2, s.out ++ [h], s.size + sizeH h.1⟩) := by
  obtain ⟨⟨hn, hv⟩, nv⟩ := h
  have h1 : hn.size ≤ 16384 := by simp only [sizeH] at hz; omega
  have h2 : hv.size ≤ 16384 := by simp only [sizeH] at hz; omega
  have hi := idx_le (n := hn) (v := hv) hM
  obtain ⟨g1, g2⟩ := fnd_get hn hv M
  have e1 : (encH m M ((hn, hv), nv)) = if nv = true then (litB 16 4 (fnd hn hv (allL M)).1 (hn, hv), M)
    else if (fnd hn hv (allL M)).2 = true then (pint 128 7 (fnd hn hv (allL M)).1, M)
    else if m < sizeH (hn, hv) then (litB 0 4 (fnd hn hv (allL M)).1 (hn, hv), M)
    else (litB 64 6 (fnd hn hv (allL M)).1 (hn, hv), addM m M (hn, hv)) := rfl
  generalize (fnd hn hv (allL M)).1 = i at hi g1 g2 e1
  generalize (fnd hn hv (allL M)).2 = wh at g1 e1
  obtain ⟨left, m', M', out, size⟩ := s
  simp only at hl hm hMM hz ⊢
  subst hm hMM
  have lit : ∀ (j : Nat) (b' : List UInt8), j ≤ 4 → left = litB (fstK j) (bitsK j) i (hn, hv) ++ b' → stepS limit ⟨left, m', M', out, size⟩ = readK limit j i ⟨(if i = 0 then ptext hn else []) ++ ptext hv ++ b', m', M', out, size⟩ := fun j b' hj he => by
    rw [stepS_pre (s := ⟨left, m', M', out, size⟩) (b := (if i = 0 then ptext hn else []) ++ ptext hv ++ b') hj hi (by
      simp only
      rw [he, litB]
      simp only [List.append_assoc])]
  have named : namedS i ⟨(if i = 0 then ptext hn else []) ++ ptext hv ++ b, m', M', out, size⟩ = .ok ((hn, hv), ⟨b, m', M', out, size⟩) :=
    named_back (i := i) (h := (hn, hv)) (s := ⟨_, m', M', out, size⟩) (b := b) h1 h2 rfl g2
  by_cases c1 : nv = true
  · rw [e1, if_pos c1] at hl ⊢
    subst c1
    rw [lit 3 b (by omega) hl]
    show litS true i _ = _
    unfold litS
    rw [named]
    simp only
    exact take_back (h := ((hn, hv), true)) (s := ⟨b, m', M', out, size⟩) hz
  · have c1' : nv = false := by simpa using c1
    subst c1'
    rw [if_neg (by decide)] at e1
    by_cases c2 : wh = true
    · rw [e1, if_pos c2] at hl ⊢
      rw [stepS_pre (s := ⟨left, m', M', out, size⟩) (j := 0) (b := b) (by omega) hi hl]
      show indexedS i _ = _
      unfold indexedS headS
      simp only
      rw [g1 c2]
      simp only
      exact take_back (h := ((hn, hv), false)) (s := ⟨b, m', M', out, size⟩) hz
    · rw [if_neg c2] at e1
      by_cases c3 : m' < sizeH (hn, hv)
      · rw [e1, if_pos c3] at hl ⊢
        rw [lit 4 b (by omega) hl]
        show litS false i _ = _
        unfold litS
        rw [named]
        simp only
        exact take_back (h := ((hn, hv), false)) (s := ⟨b, m', M', out, size⟩) hz
      · rw [e1, if_neg c3] at hl ⊢
        rw [lit 1 b (by omega) hl]
        show addedS i _ = _
        unfold addedS
        rw [named]
        simp only
        rw [take_back (h := ((hn, hv), false)) (s := ⟨b, m', M', out, size⟩) hz]
theorem litB_pos (f k i : Nat) (h : Hd) : 1 ≤ (litB f k i h).length := by
  unfold litB
  have := pint_pos f k i
  simp only [List.length_append]
  omega
theorem encH_pos (m : Nat) (M : List Hd) (h : Hn) : 1 ≤ (encH m M h).1.length := by
  unfold encH
  split
  · exact litB_pos _ _ _ _
  · split
    · exact pint_pos _ _ _
    · split
      · exact litB_pos _ _ _ _
      · exact litB_pos _ _ _ _
theorem total_add {m : Nat} {M : List Hd} (h : total M ≤ m) (g : Hd) : total (addM m M g) ≤ m := by
  unfold addM
  split
  · have := (shr_le (m - sizeH g) M).1
    rw [total_app]
    simp only [total]
    omega
  · simp [total]
theorem total_encH {m : Nat} {M : List Hd} (h : total M ≤ m) (g : Hn) : total (encH m M g).2 ≤ m := by
  unfold encH
  split
  · exact h
  · split
    · exact h
    · split
      · exact h
      · exact total_add h _
theorem allS_step {limit : Nat} {s s1 : RS} (hl : s.left.length ≠ 0) (h : stepS limit s = .ok ((), s1)) : allS limit s.left.length s = allS limit s1.left.length s1 := by
  have hlt := stepS_left hl h
  obtain ⟨f, hf⟩ : ∃ f, s.left.length = f + 1 := ⟨s.left.length - 1, by omega⟩
  rw [hf]
  show (if s.left.length = 0 then Res.ok ((), s) else match stepS limit s with
    | .er c => .er c
    | .ok (_, s1) => allS limit f s1) = _
  rw [if_neg hl, h]
  exact allS_fuel limit f s1 (by omega)
/-- All headers of a list are read back. -/
theorem list_back (limit : Nat) : ∀ (L : List Hn) (m : Nat) (M : List Hd) (s : RS), m ≤ 4096 → total M ≤ m → s.left = (encL m M L).1 → s.m = m → s.M = M → s.size + sumN L ≤ 16384 →
    allS limit s.left.length s = .ok ((), ⟨[], m, (encL m M L).2, s.out ++ L, s.size + sumN L⟩)
  | [], m, M, s, hm, hM, hl, h1, h2, hz => by
    obtain ⟨left, m', M', out, size⟩ := s
    simp only [encL] at hl h1 h2 ⊢
    subst hl h1 h2
    simp [allS, sumN]
  | h :: L, m, M, s, hm, hM, hl, h1, h2, hz => by
    have hsum : sumN (h :: L) = sizeH h.1 + sumN L := by simp [sumN]
    rw [hsum] at hz
    simp only [encL] at hl
    have hs := step_back (limit := limit) (by omega) hl h1 h2 (by omega)
    have hp := encH_pos m M h
    rw [allS_step (by rw [hl, List.length_append]; omega) hs]
    rw [list_back limit L m (encH m M h).2 ⟨(encL m (encH m M h).2 L).1, m, (encH m M h).2, s.out ++ [h], s.size + sizeH h.1⟩ hm (total_encH hM h) rfl rfl rfl (by simp only; omega)]
    simp only [encL, hsum, List.append_assoc, List.cons_append, List.nil_append, Nat.add_assoc]
/-- An encoder and a decoder that stand alike. -/
def Alike (limit m : Nat) (M : List Hd) (s : ES) : Prop := s.m ≤ limit ∧ match s.asked with
  | none => s.m = m ∧ s.M = M
  | some y => y ≤ s.m ∧ s.M = shr y M
theorem resized_back {limit n m : Nat} {M : List Hd} {b : List UInt8} (hn : n ≤ limit) (h9 : n ≤ 2147483647) : stepS limit ⟨pint 32 5 n ++ b, m, M, [], 0⟩ = .ok ((), ⟨b, n, shr n M, [], 0⟩) := by
  rw [stepS_pre (s := ⟨pint 32 5 n ++ b, m, M, [], 0⟩) (j := 2) (b := b) (by omega) h9 rfl]
  show resizedS limit n _ = _
  unfold resizedS
  rw [if_neg (by simp; omega)]
/-- P4.8: a block is read back. -/
theorem block_back {limit m : Nat} {M : List Hd} {s : ES} {L : List Hn} (hA : Alike limit m M s) (hlim : limit ≤ 4096) (hM : total M ≤ m) (hs : total s.M ≤ s.m) (hz : sumN L ≤ 16384) :
    allS limit (encode s L).1.length (start (encode s L).1 m M) = .ok ((), ⟨[], s.m, (encode s L).2.M, L, sumN L⟩) ∧ Alike limit s.m (encode s L).2.M (encode s L).2 := by
  obtain ⟨sm, sM, asked⟩ := s
  obtain ⟨hl, hA⟩ := hA
  simp only at hl hA hs
  refine ⟨?_, hl, rfl, rfl⟩
  show allS limit (start (encode ⟨sm, sM, asked⟩ L).1 m M).left.length (start (encode ⟨sm, sM, asked⟩ L).1 m M) = _
  have hend : ∀ b, b = (encL sm sM L).1 → allS limit b.length ⟨b, sm, sM, [], 0⟩ = .ok ((), ⟨[], sm, (encL sm sM L).2, L, sumN L⟩) := fun b hb => by
    have := list_back limit L sm sM ⟨b, sm, sM, [], 0⟩ (by omega) hs hb rfl rfl (by simp only; omega)
    simpa using this
  cases asked with
  | none =>
    obtain ⟨rfl, rfl⟩ := hA
    exact hend _ (by simp [start, encode, sizesB])
  | some y =>
    obtain ⟨hy, rfl⟩ := hA
    have hpos : ∀ n b, (pint 32 5 n ++ b).length ≠ 0 := fun n b => by
      have := pint_pos 32 5 n
      rw [List.length_append]
      omega
    by_cases hlt : y < sm
    · have e : (start (encode ⟨sm, shr y M, some y⟩ L).1 m M) = ⟨pint 32 5 y ++ (pint 32 5 sm ++ (encL sm (shr y M) L).1), m, M, [], 0⟩ := by
        simp [start, encode, sizesB, hlt]
      rw [e, allS_step (hpos _ _) (resized_back (by omega) (by omega)), allS_step (hpos _ _) (resized_back (by omega) (by omega)), shr_id (m := sm) (by have := (shr_le y M).1; omega)]
      exact hend _ rfl
    · obtain rfl : y = sm := by omega
      have e : (start (encode ⟨y, shr y M, some y⟩ L).1 m M) = ⟨pint 32 5 y ++ (encL y (shr y M) L).1, m, M, [], 0⟩ := by
        simp [start, encode, sizesB]
      rw [e, allS_step (hpos _ _) (resized_back (by omega) (by omega))]
      exact hend _ rfl
theorem alike_new {limit m : Nat} {M : List Hd} (h : m ≤ limit) : Alike limit m M ⟨m, M, none⟩ := ⟨h, rfl, rfl⟩
theorem alike_resize {limit m x : Nat} {M : List Hd} (h : x ≤ limit) : Alike limit m M (resizeE ⟨m, M, none⟩ x) := ⟨h, Nat.le_refl _, rfl⟩

/-- What a reading holds: no more than its limit lets it. -/
def Bounded (limit : Nat) (s : RS) : Prop := s.m ≤ limit ∧ sumN s.out = s.size ∧ s.size ≤ 16384
theorem sumN_snoc (L : List Hn) (h : Hn) : sumN (L ++ [h]) = sumN L + sizeH h.1 := by simp [sumN]
theorem take_bd {limit : Nat} {h : Hn} {s s1 : RS} {u : Unit} (hb : Bounded limit s) (e : takeS h s = .ok (u, s1)) : Bounded limit s1 := by
  unfold takeS at e
  split at e
  · cases e
  · cases e
    obtain ⟨b1, b2, b3⟩ := hb
    exact ⟨b1, by simp only; rw [sumN_snoc, b2], by simp only; omega⟩
theorem textS_bd {limit : Nat} {s s1 : RS} {t : ByteArray} (hb : Bounded limit s) (e : textS s = .ok (t, s1)) : Bounded limit s1 := by
  unfold textS at e
  cases hi : getText s.left with
  | er c => rw [hi] at e; cases e
  | ok p => obtain ⟨t', k⟩ := p; rw [hi] at e; cases e; exact hb
theorem numS_bd {limit k n : Nat} {s s1 : RS} (hb : Bounded limit s) (e : numS k s = .ok (n, s1)) : Bounded limit s1 := by
  unfold numS at e
  cases hi : getInt k s.left with
  | er c => rw [hi] at e; cases e
  | ok p => obtain ⟨t', j⟩ := p; rw [hi] at e; cases e; exact hb
theorem namedS_bd {limit n : Nat} {s s1 : RS} {g : Hd} (hb : Bounded limit s) (e : namedS n s = .ok (g, s1)) : Bounded limit s1 := by
  unfold namedS at e
  split at e
  · cases h1 : textS s with
    | er c => rw [h1] at e; cases e
    | ok q =>
      obtain ⟨t, s2⟩ := q
      rw [h1] at e
      simp only at e
      cases h2 : textS s2 with
      | er c => rw [h2] at e; cases e
      | ok q2 =>
        obtain ⟨v, s3⟩ := q2
        rw [h2] at e
        cases e
        exact textS_bd (textS_bd hb h1) h2
  · cases h0 : getM s.M (n : Int) with
    | none => rw [h0] at e; cases e
    | some g' =>
      rw [h0] at e
      simp only at e
      cases h1 : textS s with
      | er c => rw [h1] at e; cases e
      | ok q =>
        obtain ⟨t, s2⟩ := q
        rw [h1] at e
        cases e
        exact textS_bd hb h1
theorem readK_bd {limit k n : Nat} {s s1 : RS} {u : Unit} (hb : Bounded limit s) (e : readK limit k n s = .ok (u, s1)) : Bounded limit s1 := by
  have lit : ∀ nv, litS nv n s = .ok (u, s1) → Bounded limit s1 := by
    intro nv e
    unfold litS at e
    cases h1 : namedS n s with
    | er c => rw [h1] at e; cases e
    | ok q =>
      obtain ⟨g, s2⟩ := q
      rw [h1] at e
      exact take_bd (namedS_bd hb h1) e
  unfold readK at e
  split at e
  · unfold indexedS headS at e
    cases h0 : getM s.M (n : Int) with
    | none => rw [h0] at e; cases e
    | some g' =>
      rw [h0] at e
      exact take_bd hb e
  · unfold addedS at e
    cases h1 : namedS n s with
    | er c => rw [h1] at e; cases e
    | ok q =>
      obtain ⟨g, s2⟩ := q
      rw [h1] at e
      simp only at e
      cases h2 : takeS (g, false) s2 with
      | er c => rw [h2] at e; cases e
      | ok q2 =>
        obtain ⟨v, s3⟩ := q2
        rw [h2] at e
        cases e
        have hb3 := take_bd (namedS_bd hb h1) h2
        exact ⟨hb3.1, hb3.2.1, hb3.2.2⟩
  · unfold resizedS at e
    split at e
    · cases e
    · cases e
      obtain ⟨b1, b2, b3⟩ := hb
      exact ⟨by simp only; omega, b2, b3⟩
  · exact lit _ e
  · exact lit _ e
theorem allS_bd (limit : Nat) : ∀ (f : Nat) (s s1 : RS) (u : Unit), Bounded limit s → allS limit f s = .ok (u, s1) → Bounded limit s1
  | 0, s, s1, u, hb, e => by cases e; exact hb
  | f + 1, s, s1, u, hb, e => by
    have e1 : allS limit (f + 1) s = (if s.left.length = 0 then .ok ((), s) else match stepS limit s with
      | .er c => .er c
      | .ok (_, s1) => allS limit f s1) := rfl
    rw [e1] at e
    split at e
    · cases e; exact hb
    · cases hs : stepS limit s with
      | er c => rw [hs] at e; cases e
      | ok q =>
        obtain ⟨v, s2⟩ := q
        rw [hs] at e
        refine allS_bd limit f s2 s1 u ?_ e
        unfold stepS at hs
        split at hs
        · cases hs; exact hb
        · rename_i c t h
          cases h1 : numS (bitsK (kindOf c.toNat)) s with
          | er c => rw [h1] at hs; cases hs
          | ok q =>
            obtain ⟨n, s3⟩ := q
            rw [h1] at hs
            exact readK_bd (numS_bd hb h1) hs
end Go.Proofs.YtlkieeindnpidaaDoor

namespace Go.Proofs.YtlkieeindnpidaaDoor
open Go.RowKit Tt Hu Hu.Hf

/-- Headers that lie in memory. -/
def Sz47 (L : List Hn) : Prop := ∀ i (h : i < L.length), (L[i]).1.1.size ≤ 140737488355328 ∧ (L[i]).1.2.size ≤ 140737488355328
def LightPost (n : Nat) (w : World) (e : Ending) (w' : World) : Prop := ∃ r : Bool, e = .returned (.bool r) ∧ (r = true → n ≤ 60) ∧ Below w.heap.size w w'
def LiRel (n : Nat) (w : World) (s3 s4 : Value) (wr : World) : Prop := ∃ i x : Nat, s4 = .int .i64 (i : Int) ∧ s3 = .int .i64 (x : Int) ∧ i ≤ n ∧ i ≤ 61 ∧ x ≤ 60000 * i ∧ ∃ q, wr = w.drewN q
set_option maxRecDepth 100000 in
set_option maxHeartbeats 2000000 in
theorem light_any (a : Option Addr) (n c : Nat) (L : List Hn) (w : World) (hs : Ns w a n c L) (hz : Sz47 L) : Calls Tryd.prog 39 #[.slice a n c] w (LightPost n w) := by
  have hm := hs.max
  have hle := hs.le
  unfold maxLen at hm
  have HS := Lib.hid hs
  have HL := Lib.hid hs.len
  have HZ := Lib.hid hz
  clear hs hz
  go_enter Tryd.func39, Tryd.ntmps39
  go_wp2
  go_loopw [3, 4] (fun s3 s4 wr => LiRel n w s3 s4 wr) (fun _ s4 _ => 61 - (intOf s4).toNat)
  case atStart => exact ⟨0, 0, rfl, rfl, by omega, by omega, by omega, 0, rfl⟩
  case round =>
    obtain ⟨i, x, rfl, rfl, hin, hi2, hx, q, rfl⟩ := hrel
    by_cases hlt : i < n ∧ i ≤ 60
    · obtain ⟨h1, h2⟩ := hlt
      obtain ⟨b, o, rfl, e0, e1, e2⟩ := HS.out.row i (by rw [HL.out]; exact h1)
      obtain ⟨hz1, hz2⟩ := HZ.out i (by rw [HL.out]; exact h1)
      generalize L[i]'(by rw [HL.out]; exact h1) = C at e0 e1 e2 hz1 hz2
      have hia : (0 : Int) ≤ (i : Int) := by omega
      have hib : (i : Int) < (n : Int) := by omega
      go_wp2
      go_region
      all_goals go_wp2
      all_goals exact ⟨⟨i + 1, x + min C.1.1.size 30000 + min C.1.2.size 30000, by go_num, by congr 1; omega, by omega, by omega, by omega, q + 1, rfl⟩, by simp [intOf]; omega⟩
    · have hB := Tt.bdN (Below.refl w.heap.size w) q
      by_cases h1 : i < n
      · have h2 : ¬ i ≤ 60 := by omega
        have h3 : ¬ n ≤ 60 := by omega
        clear hlt
        go_wp2
        all_goals go_ret
        all_goals exact ⟨_, rfl, fun h => by simp at h <;> omega, hB⟩
      · clear hlt
        go_wp2
        all_goals go_ret
        all_goals exact ⟨_, rfl, fun h => by simp at h <;> omega, hB⟩
set_option maxRecDepth 100000 in
set_option maxHeartbeats 2000000 in
theorem sizeW_any (a : Option Addr) (n c : Nat) (L : List Hn) (w : World) (h : Ns w a n c L) (hz : Sz47 L) (hs : sumN L ≤ 100000000000000000) :
    Calls Tryd.prog 32 #[.slice a n c] w fun e w' => e = .returned (.int .i64 (sumN L : Int)) ∧ Below w.heap.size w w' := by
  have hl := h.len
  have hm := h.max
  have hle := h.le
  unfold maxLen at hm
  have H := Lib.hid h
  have HL := Lib.hid hl
  have HZ := Lib.hid hz
  clear h hl hz
  go_enter Tryd.func32, Tryd.ntmps32
  go_wp2_with fail
  go_loopw [3, 8] (fun s3 s8 wr => ∃ i : Nat, s8 = .int .i64 (i : Int) ∧ i ≤ n ∧ s3 = .int .i64 ((sumN (L.take i) : Nat) : Int) ∧ Below w.heap.size w wr) (fun _ s8 _ => n - (intOf s8).toNat)
  case atStart => exact ⟨0, rfl, by omega, by simp [sumN], Below.refl _ _⟩
  case round =>
    obtain ⟨i, rfl, hi, rfl, hB⟩ := hrel
    by_cases hlt : i < n
    · have hli : i < L.length := by rw [HL.out]; exact hlt
      obtain ⟨b, o, rfl, e0, e1, e2⟩ := (H.out.kept hB).row i hli
      obtain ⟨hz1, hz2⟩ := HZ.out i hli
      have hst := sumN_take L hli
      have hmo := sumN_mono L (i + 1)
      generalize L[i] = h at e0 e1 e2 hst hz1 hz2
      have HST := Lib.hid hst
      generalize hx : sumN (L.take (i + 1)) = x at hst hmo HST
      generalize sumN (L.take i) = y at hst HST
      have HSZ := Lib.hid (fun W => sizeOf_any h.1 h.2 W hz1 hz2)
      have HX := Lib.hid hx
      have hia : (0 : Int) ≤ (i : Int) := by omega
      have hib : (i : Int) < (n : Int) := by omega
      generalize hz : sizeH h.1 = z at hst HST HSZ
      clear hx hz hz1 hz2
      go_wp2_with fail
      refine (HSZ.out _).mono ?_
      rintro e w6 ⟨rfl, rfl⟩
      go_wp2_with fail
      refine ⟨⟨i + 1, by go_num, by omega, by rw [HX.out, HST.out]; go_num, ((hB.alloc hB.size _).alloc (by have := hB.size; simp; omega) _)⟩, by simp [intOf]; omega⟩
    · have hin : i = n := by omega
      subst hin
      have ht : L.take i = L := List.take_of_length_le (by rw [HL.out]; omega)
      rw [ht]
      go_wp2_with fail
      go_ret
      exact ⟨rfl, hB⟩
/-- A list whose Size fits is of small headers. -/
theorem sumN_get (L : List Hn) : ∀ i (h : i < L.length), sizeH (L[i]).1 ≤ sumN L := by
  intro i h
  have h1 := sumN_take L h
  have h2 := sumN_mono L (i + 1)
  omega
theorem small_of_sum {L : List Hn} (h : sumN L ≤ 16384) : Small L := fun i hi => by
  have := sumN_get L i hi
  simp only [sizeH] at this
  omega
theorem sumN_bound {L : List Hn} (hz : Sz47 L) (hn : L.length ≤ 60) : sumN L ≤ 100000000000000000 := by
  have key : ∀ i, i ≤ L.length → sumN (L.take i) ≤ 281474976710688 * i := by
    intro i
    induction i with
    | zero => intro _; simp [sumN]
    | succ k ih =>
      intro hk
      have h1 := sumN_take L (i := k) (by omega)
      have h2 := hz k (by omega)
      have h3 := ih (by omega)
      simp only [sizeH] at h1
      omega
  have := key L.length (Nat.le_refl _)
  rw [List.take_of_length_le (Nat.le_refl _)] at this
  omega

def HeRel (n : Nat) (l : List Hn) (w : World) (s3 s4 : Value) (wr : World) : Prop := ∃ (k N c : Nat) (ad : Option Addr), s4 = .int .i64 (k : Int) ∧ s3 = .slice ad N c ∧ Hid (N = (l.take k).length) ∧ k ≤ n ∧ NOwn wr w.heap.size (.slice ad N c) (l.take k) ∧ Below w.heap.size w wr
set_option maxRecDepth 100000 in
set_option maxHeartbeats 4000000 in
theorem headers_any (a : Option Addr) (n c : Nat) (l : List Hn) (w : World) (hs : Ns w a n c l) (hn : n ≤ 1000) : Calls Tryd.prog 28 #[.slice a n c] w fun e w' => ∃ (ad : Option Addr) (c' : Nat), e = .returned (.slice ad n c') ∧ NOwn w' w.heap.size (.slice ad n c') l ∧ Below w.heap.size w w' := by
  have HS := Lib.hid hs
  have HL := Lib.hid hs.len
  clear hs
  go_enter Tryd.func28, Tryd.ntmps28
  go_wp2_with (at_make; refine wp_make_n rfl _ _ rfl (n : Int) rfl rfl (by omega) (by omega) w.heap.size (Nat.le_refl _) ?_; intro w1 ad1 hown1 hb1)
  go_loopw [3, 4] (fun s3 s4 wr => HeRel n l w s3 s4 wr) (fun _ s4 _ => n - (intOf s4).toNat)
  case atStart => exact ⟨0, 0, _, _, rfl, rfl, Lib.hid (by simp), by omega, by simpa using hown1, hb1⟩
  case round =>
    obtain ⟨k, N, cc, ad, rfl, rfl, hN, hk, hown, hbw⟩ := hrel
    clear hown1 hb1
    by_cases hlt : k < n
    · obtain ⟨b, o, rfl, e0, e1, e2⟩ := (HS.out.kept hbw).row k (by rw [HL.out]; exact hlt)
      have HT : Hid (l.take (k + 1) = l.take k ++ [l[k]'(by rw [HL.out]; exact hlt)]) := Lib.hid (by rw [List.take_add_one, List.getElem?_eq_getElem (by rw [HL.out]; exact hlt)]; rfl)
      generalize l[k]'(by rw [HL.out]; exact hlt) = g at e0 e1 e2 HT
      have hka : (0 : Int) ≤ (k : Int) := by omega
      have hkb : (k : Int) < (n : Int) := by omega
      have hw := hbw.size
      have hl : (l.take k).length ≤ k := by simp; omega
      go_wp2_with (at_builtin; (refine wp_append_n rfl _ _ rfl _ (l.take k) [g] rfl w.heap.size (hown.alloc _) (some ⟨wr.heap.size, 0, none⟩) 1 1 rfl (ns_new1 _ _) (by omega) (by simp; omega) ?_); intro w3 a3 N3 c3 hN3 hown3 hb3)
      refine ⟨⟨k + 1, N3, c3, a3, by go_num, rfl, ?_, by omega, ?_, ?_⟩, by simp [intOf]; omega⟩
      · rw [HT.out]; exact hN3
      · rw [HT.out]; exact hown3
      · exact (hbw.alloc hw _).trans hb3
    · obtain rfl : k = n := by omega
      have HT : l.take k = l := List.take_of_length_le (by rw [HL.out]; exact Nat.le_refl _)
      rw [HT] at hN hown
      have e : N = k := by rw [hN, HL.out]
      subst e
      go_wp2
      go_ret
      exact ⟨_, _, rfl, hown, hbw⟩

/-- A store into a row of the call's own. -/
theorem ownsRow_set {w : World} {B : Nat} {e : TypeId} {size : Nat} {g n m cap : Nat} {xs : List Value} (h : w.ownsRow B e size (.slice (some ⟨g, 0, none⟩) n cap) m xs) (j : Nat) (u : Value) :
    (w.setCell ⟨g, j, none⟩ u).ownsRow B e size (.slice (some ⟨g, 0, none⟩) n cap) m (xs.set j u) := by
  obtain ⟨h1, h2⟩ := h
  refine ⟨by rw [List.length_set]; exact h1, ?_⟩
  rcases h2 with ⟨h2, _⟩ | ⟨g', cap', cur, hv, hg, hh, hn, hm, hs, ht⟩
  · cases h2
  · cases hv
    refine Or.inr ⟨g, cap, cur.setIfInBounds j u, rfl, hg, ?_, hn, hm, by simpa using hs, ?_⟩
    · show (w.heap.modify g _)[g]? = _
      rw [Array.getElem?_modify, if_pos rfl, hh]
      rfl
    · rw [Array.toList_setIfInBounds, List.take_set, ht]
theorem ncells_set2 : ∀ (l : List Hn) (i : Nat) (h : i < l.length) (b : Bool), ncells (l.set i ((l[i]).1, b)) = (ncells l).set (i * 3 + 2) (.bool b)
  | [], i, h, b => by simp at h
  | x :: l, 0, _, b => rfl
  | x :: l, i + 1, h, b => by
    have := ncells_set2 l i (by simpa using h) b
    rw [show (i + 1) * 3 + 2 = i * 3 + 2 + 3 by omega]
    simp [ncells, this]
theorem ncells_set0 : ∀ (l : List Hn) (i : Nat) (h : i < l.length) (s : ByteArray), ncells (l.set i ((s, (l[i]).1.2), (l[i]).2)) = (ncells l).set (i * 3) (.string s)
  | [], i, h, b => by simp at h
  | x :: l, 0, _, b => rfl
  | x :: l, i + 1, h, b => by
    have := ncells_set0 l i (by simpa using h) b
    rw [show (i + 1) * 3 = i * 3 + 3 by omega]
    simp [ncells, this]
theorem ncells_set1 : ∀ (l : List Hn) (i : Nat) (h : i < l.length) (s : ByteArray), ncells (l.set i (((l[i]).1.1, s), (l[i]).2)) = (ncells l).set (i * 3 + 1) (.string s)
  | [], i, h, b => by simp at h
  | x :: l, 0, _, b => rfl
  | x :: l, i + 1, h, b => by
    have := ncells_set1 l i (by simpa using h) b
    rw [show (i + 1) * 3 + 1 = i * 3 + 1 + 3 by omega]
    simp [ncells, this]
/-- Where a row of headers of the call's own lies; its cells may be written. -/
theorem NOwn.spot {w : World} {B : Nat} {a : Option Addr} {N c : Nat} {l : List Hn} (h : NOwn w B (.slice a N c) l) (h0 : 0 < l.length) : ∃ g, a = some ⟨g, 0, none⟩ ∧ B ≤ g ∧ g < w.heap.size ∧ N = l.length ∧ (∀ i, w.frozen? ⟨g, i, none⟩ = false) ∧
    ∀ i (h : i < l.length), w.cell? ⟨g, i * 3, none⟩ = some (.string (l[i]).1.1) ∧ w.cell? ⟨g, i * 3 + 1, none⟩ = some (.string (l[i]).1.2) ∧ w.cell? ⟨g, i * 3 + 2, none⟩ = some (.bool (l[i]).2) := by
  have hns := h.ns
  obtain ⟨a1, c1, e1, hn⟩ := hns
  cases e1
  obtain ⟨h1, h2⟩ := h
  rcases h2 with ⟨_, h2⟩ | ⟨g, cap, cur, hv, hg, hh, hnn, hm, hs, ht⟩
  · omega
  · cases hv
    refine ⟨g, rfl, hg, (Array.getElem?_eq_some_iff.1 hh).1, rfl, fun i => by simp [World.frozen?, hh], fun i hi => ?_⟩
    obtain ⟨b, o, e, r0, r1, r2⟩ := hn.row i hi
    cases e
    simp only [Nat.zero_add] at r0 r1 r2
    exact ⟨r0, r1, r2⟩
theorem NOwn.set2 {w : World} {B g n c : Nat} {l : List Hn} (h : NOwn w B (.slice (some ⟨g, 0, none⟩) n c) l) {i : Nat} (hi : i < l.length) (b : Bool) : NOwn (w.setCell ⟨g, i * 3 + 2, none⟩ (.bool b)) B (.slice (some ⟨g, 0, none⟩) n c) (l.set i ((l[i]).1, b)) := by
  unfold NOwn
  rw [List.length_set, ncells_set2]
  exact ownsRow_set h _ _
theorem NOwn.set0 {w : World} {B g n c : Nat} {l : List Hn} (h : NOwn w B (.slice (some ⟨g, 0, none⟩) n c) l) {i : Nat} (hi : i < l.length) (s : ByteArray) : NOwn (w.setCell ⟨g, i * 3, none⟩ (.string s)) B (.slice (some ⟨g, 0, none⟩) n c) (l.set i ((s, (l[i]).1.2), (l[i]).2)) := by
  unfold NOwn
  rw [List.length_set, ncells_set0]
  exact ownsRow_set h _ _
theorem NOwn.set1 {w : World} {B g n c : Nat} {l : List Hn} (h : NOwn w B (.slice (some ⟨g, 0, none⟩) n c) l) {i : Nat} (hi : i < l.length) (s : ByteArray) : NOwn (w.setCell ⟨g, i * 3 + 1, none⟩ (.string s)) B (.slice (some ⟨g, 0, none⟩) n c) (l.set i (((l[i]).1.1, s), (l[i]).2)) := by
  unfold NOwn
  rw [List.length_set, ncells_set1]
  exact ownsRow_set h _ _
end Go.Proofs.YtlkieeindnpidaaDoor

