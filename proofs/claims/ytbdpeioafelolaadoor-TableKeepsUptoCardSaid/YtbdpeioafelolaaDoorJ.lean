/-
  THE DOCUMENT's TABLE, first part: Headers, its Size.
-/
import Derived.Test.YtbdpeioafelolaaDoorI
namespace Go.Proofs.YtbdpeioafelolaaDoor
open Go.RowKit

def HdRel (n : Nat) (l : List Hd) (w : World) (s3 s4 : Value) (wr : World) : Prop := ∃ (k N c : Nat) (ad : Option Addr), s4 = .int .i64 (k : Int) ∧ s3 = .slice ad N c ∧ Hid (N = (l.take k).length) ∧ k ≤ n ∧ HOwn wr w.heap.size (.slice ad N c) (l.take k) ∧ Below w.heap.size w wr
set_option maxRecDepth 100000 in
set_option maxHeartbeats 4000000 in
theorem headers_any (a : Option Addr) (n c : Nat) (l : List Hd) (w : World) (hs : Hs w a n c l) (hn : n ≤ 1000) : Calls Tryd.prog 44 #[.slice a n c] w fun e w' => ∃ (ad : Option Addr) (c' : Nat), e = .returned (.slice ad n c') ∧ HOwn w' w.heap.size (.slice ad n c') l ∧ Below w.heap.size w w' := by
  have HS := Lib.hid hs
  have HL := Lib.hid hs.len
  clear hs
  go_enter Tryd.func44, Tryd.ntmps44
  go_wp2_with (at_make; refine wp_make_h rfl _ _ rfl (n : Int) rfl rfl (by omega) (by omega) w.heap.size (Nat.le_refl _) ?_; intro w1 ad1 hown1 hb1)
  go_loopw [3, 4] (fun s3 s4 wr => HdRel n l w s3 s4 wr) (fun _ s4 _ => n - (intOf s4).toNat)
  case atStart => exact ⟨0, 0, _, _, rfl, rfl, Lib.hid (by simp), by omega, by simpa using hown1, hb1⟩
  case round =>
    obtain ⟨k, N, cc, ad, rfl, rfl, hN, hk, hown, hbw⟩ := hrel
    clear hown1 hb1
    by_cases hlt : k < n
    · obtain ⟨b, o, rfl, e0, e1, e2⟩ := (HS.out.kept hbw).row k (by rw [HL.out]; exact hlt)
      have HT : Hid (l.take (k + 1) = l.take k ++ [l[k]'(by rw [HL.out]; exact hlt)]) := Lib.hid (by rw [List.take_add_one, List.getElem?_eq_getElem (by rw [HL.out]; exact hlt)]; rfl)
      generalize l[k]'(by rw [HL.out]; exact hlt) = g at e0 e1 e2 HT
      have hka : (0 : Int) ≤ (k : Int) := by omega
      have hkb : (k : Int) < (n : Int) := by omega
      have hw := hbw.size
      have hl : (l.take k).length ≤ k := by simp; omega
      go_wp2_with (at_builtin; (refine wp_append_h rfl _ _ rfl _ (l.take k) [g] rfl w.heap.size (hown.alloc _) (some ⟨wr.heap.size, 0, none⟩) 1 1 rfl (hs_new1 _ _) (by omega) (by simp; omega) ?_); intro w3 a3 N3 c3 hN3 hown3 hb3)
      refine ⟨⟨k + 1, N3, c3, a3, by go_num, rfl, ?_, by omega, ?_, ?_⟩, by simp [intOf]; omega⟩
      · rw [HT.out]; exact hN3
      · rw [HT.out]; exact hown3
      · exact (hbw.alloc hw _).trans hb3
    · obtain rfl : k = n := by omega
      have HT : l.take k = l := List.take_of_length_le (by rw [HL.out]; exact Nat.le_refl _)
      rw [HT] at hN hown
      have e : N = k := by rw [hN, HL.out]
      subst e
      go_wp2
      go_ret
      exact ⟨_, _, rfl, hown, hbw⟩
end Go.Proofs.YtbdpeioafelolaaDoor
