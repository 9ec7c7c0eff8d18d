/-
  THE LAW HuffDecodes: its walk.
-/
import Derived.Test.YtdkmnblfmmmfkaaDoorDd
import Derived.Test.YtdkmnblfmmmfkaaDoorU
import Derived.Test.YtdkmnblfmmmfkaaDoorBa
namespace Go.Proofs.YtdkmnblfmmmfkaaDoor
open Go.RowKit Hf

set_option maxHeartbeats 400000 in
theorem bytes_any (a : Option Addr) (n c : Nat) (l : List UInt8) (w : World) (hs : Sl w a n c l) (hk : n ≤ 140737488355328) :
    Calls Tryd.prog 19 #[.slice a n c] w (Built l w) := by
  have hl := hs.len
  subst hl
  go_enter Tryd.func19, Tryd.ntmps19
  go_wp2_with (first | (at_make; refine wp_make_bytes rfl _ _ rfl _ rfl rfl (by omega) (by omega) w.heap.size (Nat.le_refl _) ?_; intro w1 ad1 hown1 hb1; have hs1 := hs.kept hb1; have hz1 := hb1.size) | (at_builtin; refine wp_append_bytes rfl _ _ rfl _ [] l rfl w.heap.size hown1 a l.length c rfl hs1 (by simp; omega) hz1 ?_; intro w2 ad2 N2 c2 hN2 hown2 hb2))
  go_ret
  exact ⟨_, _, _, rfl, hN2, hown2, hb1.trans hb2⟩
/-- The front of a slice. -/
theorem sl_front {w : World} {a : Option Addr} {N n c : Nat} {l m : List UInt8} (h : Sl w a N c (l ++ m)) (hn : l.length = n) : Sl w a n c l := by
  have h1 := h.len
  have h2 := h.le
  rw [List.length_append] at h1
  refine ⟨hn, by omega, h.max, h.nil, fun i hi => ?_⟩
  obtain ⟨b, o, e, hc⟩ := h.row i (by rw [List.length_append]; omega)
  exact ⟨b, o, e, by rw [hc, List.getElem_append_left hi]⟩
theorem le_cap {w : World} {B : Nat} {a : Option Addr} {N n c : Nat} {l m : List UInt8} (h : Own w B (.slice a N c) (l ++ m)) (hn : l.length = n) : n + m.length ≤ c := by
  have h1 := (own_sl2 h).len
  have h2 := (own_sl2 h).le
  rw [List.length_append] at h1
  omega
theorem Seen.later {w W : World} {v : Value} {c : Int} (h : Seen w v c) (hB : Below w.heap.size w W) : Seen W v c := fun W' hW => h W' (hB.trans (hW.mono hB.size))
/-- Decode, of huff and of the document, seen alike. -/
theorem decode_pair {w0 : World} {es : Nat → Addr} (S : Sent w0 es) (l : List UInt8) (hl : l.length ≤ 300) : ∃ (s : ByteArray) (ev : Value) (d : Int), Seen w0 ev d ∧
    (∀ W a n c, Below w0.heap.size w0 W → Sl W a n c l → Calls Tryd.prog 20 #[.slice a n c] W fun e w' => e = .returned (.tuple #[.string s, ev]) ∧ Below W.heap.size W w') ∧
    (∀ W a n c, Sl W a n c l → Calls Tryd.prog 21 #[.slice a n c] W fun e w' => e = .returned (.tuple #[.string s, .int .i64 d]) ∧ Below W.heap.size W w') := by
  have hE := S.cell 6 0 rfl
  cases h : saysText l with
  | none =>
    refine ⟨⟨#[]⟩, _, 107, seen_err S (i := 6) (by omega), fun W a n c hW hs => ?_, fun W a n c hs => ?_⟩
    · refine (decode_any _ a n c l W hs (by have := hs.len; omega) ((hW.cell (p := ⟨0, 0, none⟩) (cell_lt hE)).trans hE)).mono fun e w' hp => ?_
      unfold DecPost at hp
      rw [h] at hp
      exact ⟨hp.2, hp.1⟩
    · refine (decoder_any a n c l W hs (by have := hs.len; omega)).mono fun e w' hp => ?_
      unfold DecrPost at hp
      rw [h] at hp
      exact ⟨hp.2, hp.1⟩
  | some u =>
    refine ⟨⟨u.toArray⟩, .nilIface, 0, seen_nil w0, fun W a n c hW hs => ?_, fun W a n c hs => ?_⟩
    · refine (decode_any _ a n c l W hs (by have := hs.len; omega) ((hW.cell (p := ⟨0, 0, none⟩) (cell_lt hE)).trans hE)).mono fun e w' hp => ?_
      unfold DecPost at hp
      rw [h] at hp
      exact ⟨hp.2, hp.1⟩
    · refine (decoder_any a n c l W hs (by have := hs.len; omega)).mono fun e w' hp => ?_
      unfold DecrPost at hp
      rw [h] at hp
      exact ⟨hp.2, hp.1⟩

set_option maxRecDepth 100000 in
set_option maxHeartbeats 4000000 in
theorem decodes_any (es : Nat → Addr) (a : Option Addr) (n c : Nat) (l : List UInt8) (w : World) (S : Sent w es) (hs : Sl w a n c l) :
    Calls Tryd.prog 5 #[.slice a n c] w fun e w' => e = .returned (.bool true) ∧ Below w.heap.size w w' := by
  have hn9 := hs.nine
  have HS := Lib.hid hs
  have HLN := Lib.hid hs.len
  have HE := Lib.hid S
  clear hs S
  by_cases hn : n ≤ 300
  · go_enter Tryd.func5, Tryd.ntmps5
    go_wp2_with fail
    refine (first_any _ _ (HE.out.cell 6 0 rfl)).mono ?_
    rintro e w1 ⟨rfl, hb1⟩
    obtain ⟨s, ev, d, hsn, hd1, hd2⟩ := decode_pair HE.out l (by rw [HLN.out]; exact hn)
    have HSN := Lib.hid hsn
    have H1 := Lib.hid hd1
    have H2 := Lib.hid hd2
    clear hsn hd1 hd2
    have hz1 := hb1.size
    go_wp2_with fail
    refine (bytes_any a n c l _ (HS.out.kept hb1) (by omega)).mono ?_
    rintro e w2 ⟨a2, N2, c2, rfl, hN2, hown2, hb2⟩
    have hB2 : Below w.heap.size w w2 := hb1.trans (hb2.mono hz1)
    have hz2 := hB2.size
    have hl := HLN.out
    have hown2' : Own w2 w.heap.size (.slice a2 N2 c2) l := hown2.mono hz1
    clear hown2
    go_wp2_with (at_builtin; (refine wp_append_bytes rfl _ _ rfl _ l [255, 255] rfl w.heap.size (hown2'.alloc _) (some ⟨w2.heap.size, 0, none⟩) 2 2 rfl (sl_new2 _ _ _ _ _ rfl rfl) (by omega) (by simp; omega) ?_); intro w3 a3 N3 c3 hN3 hown3 hb3; have hle3 : n + 2 ≤ c3 := le_cap hown3 hl; clear hown2')
    have hB3 : Below w.heap.size w w3 := (hB2.alloc hz2 _).trans hb3
    have hz3 := hB3.size
    have hs3 := Lib.hid (sl_front (own_sl2 hown3) hl)
    have hN3' : N3 = n + 2 := by have h2 := hN3.out; simp at h2; omega
    have hm3 : Hid (Sl w3 a3 (n + 2) c3 (l ++ [255, 255])) := Lib.hid (by rw [← hN3']; exact own_sl2 hown3)
    subst hN3'
    clear hown3 hb3 hB2 hb2 hz2 hN3 hN2
    refine (H1.out w3 a3 n c3 hB3 hs3.out).mono ?_
    rintro e w4 ⟨rfl, hb4⟩
    have hB4 : Below w.heap.size w w4 := hB3.trans (hb4.mono hz3)
    go_wp2_with fail
    refine (H2.out w4 a n c (HS.out.kept hB4)).mono ?_
    rintro e w5 ⟨rfl, hb5⟩
    have hB5 : Below w.heap.size w w5 := hB4.trans (hb5.mono hB4.size)
    have hb35 : Below w3.heap.size w3 w5 := hb4.trans (hb5.mono hb4.size)
    clear hb4 hb5
    go_wp2_with fail
    refine (bytes_any a n c l _ (HS.out.kept hB5) (by omega)).mono ?_
    rintro e w6 ⟨a6, N6, c6, rfl, hN6, hown6, hb6⟩
    have hz6 := hb6.size
    clear hN6
    go_wp2_with (at_builtin; (refine wp_append_bytes rfl _ _ rfl _ l [255, 255] rfl w5.heap.size (hown6.alloc _) (some ⟨w6.heap.size, 0, none⟩) 2 2 rfl (sl_new2 _ _ _ _ _ rfl rfl) (by omega) (by simp; omega) ?_); intro w7 a7 N7 c7 hN7 hown7 hb7; clear hown6)
    have hb57 : Below w5.heap.size w5 w7 := (hb6.alloc hz6 _).trans hb7
    have hb37 : Below w3.heap.size w3 w7 := hb35.trans (hb57.mono hb35.size)
    have hB7 : Below w.heap.size w w7 := hB3.trans (hb37.mono hz3)
    have hsm := same_any _ _ _ _ _ _ _ _ w7 (hm3.out.kept hb37) (own_sl2 hown7)
    rw [show (l ++ [255, 255] == l ++ [255, 255]) = true by simp] at hsm
    have HM := Lib.hid hsm
    have hi := is_seen ev d d w7 (HSN.out.later hB7)
    rw [show (d == d) = true by simp] at hi
    have HI := Lib.hid hi
    clear hsm hown7 hb6 hb7 hb57 hb35 hb37 hN7 hi
    refine HM.out.mono ?_
    rintro e w' ⟨rfl, rfl⟩
    go_wp2_with fail
    refine HI.out.mono ?_
    rintro e w8 ⟨rfl, hb8⟩
    go_wp2_with fail
    go_ret
    exact ⟨rfl, hB7.trans (hb8.mono hB7.size)⟩
  · go_enter Tryd.func5, Tryd.ntmps5
    go_wp2_with fail
    refine (first_any _ _ (HE.out.cell 6 0 rfl)).mono ?_
    rintro e w1 ⟨rfl, hb1⟩
    go_wp2_with fail
    go_ret
    exact ⟨rfl, hb1⟩
end Go.Proofs.YtdkmnblfmmmfkaaDoor
