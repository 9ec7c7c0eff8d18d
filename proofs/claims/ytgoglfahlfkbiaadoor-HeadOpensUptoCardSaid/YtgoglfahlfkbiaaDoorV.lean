/-
  CONTRACT: All.
-/
import Derived.Test.YtgoglfahlfkbiaaDoorU
namespace Go.Proofs.YtgoglfahlfkbiaaDoor
open Go.RowKit Tt

theorem allM_snoc (L : List Hn) (g : Hn) (x : ByteArray) : allM (L ++ [g]) x = if g.1.1 = x then allM L x ++ [g.1.2] else allM L x := by
  unfold allM
  rw [List.filter_append, List.map_append]
  by_cases h : g.1.1 = x <;> simp [h]
theorem allM_len (L : List Hn) (x : ByteArray) : (allM L x).length ≤ L.length := by
  unfold allM
  rw [List.length_map]
  exact List.length_filter_le _ _
theorem ts_new1 (w : World) (x : ByteArray) : Ts (w.alloc (.cells #[.string x] 9)) (some ⟨w.heap.size, 0, none⟩) 1 1 [x] := by
  refine ⟨rfl, Nat.le_refl _, by unfold maxLen; omega, (fun h => by cases h), fun i hi => ?_⟩
  obtain rfl : i = 0 := by simpa using hi
  exact ⟨_, _, rfl, by simp⟩
theorem ts_new2 (w : World) (o : Obj) (x : ByteArray) : Ts ((w.alloc o).alloc (.cells #[.string x] 9)) (some ⟨w.heap.size + 1, 0, none⟩) 1 1 [x] := by
  have h := ts_new1 (w.alloc o) x
  have e : (w.alloc o).heap.size = w.heap.size + 1 := by simp
  rw [e] at h
  exact h
theorem bne' {a c : ByteArray} (h : a ≠ c) : (a.toList == c.toList) = false := by
  rw [beq_eq_false_iff_ne]
  intro e
  apply h
  have e1 : a.data.toList = c.data.toList := by simpa [ByteArray.toList_eq] using e
  exact ByteArray.ext (Array.toList_inj.1 e1)
/-- A list of texts of the call's own. -/
def TOut (B : Nat) (l : List ByteArray) (w : World) (e : Ending) (w' : World) : Prop := ∃ a N c, e = .returned (.slice a N c) ∧ Hid (N = l.length) ∧ TOwn w' B (.slice a N c) l ∧ Below B w w'
def AlRel (n : Nat) (L : List Hn) (x : ByteArray) (w : World) (s5 s10 : Value) (wr : World) : Prop := ∃ (k N c : Nat) (ad : Option Addr), s10 = .int .i64 (k : Int) ∧ s5 = .slice ad N c ∧ Hid (N = (allM (L.take k) x).length) ∧ k ≤ n ∧ TOwn wr w.heap.size (.slice ad N c) (allM (L.take k) x) ∧ Below w.heap.size w wr
set_option maxRecDepth 100000 in
set_option maxHeartbeats 2000000 in
theorem all_any (a : Option Addr) (n c : Nat) (L : List Hn) (x : ByteArray) (w : World) (hs : Ns w a n c L) (hn : n ≤ 1000) : Calls Tryd.prog 22 #[.slice a n c, .string x] w (TOut w.heap.size (allM L x) w) := by
  have HS := Lib.hid hs
  have HL := Lib.hid hs.len
  clear hs
  go_enter Tryd.func22, Tryd.ntmps22
  go_wp2
  go_loopw [5, 10] (fun s5 s10 wr => AlRel n L x w s5 s10 wr) (fun _ s10 _ => n - (intOf s10).toNat)
  case atStart => exact ⟨0, 0, _, _, rfl, rfl, Lib.hid (by simp [allM]), by omega, by simpa [allM] using TOwn.nil w w.heap.size, Below.refl _ _⟩
  case round =>
    obtain ⟨k, N, cc, ad, rfl, rfl, hN, hk, hown, hbw⟩ := hrel
    by_cases hlt : k < n
    · obtain ⟨b, o, rfl, e0, e1, e2⟩ := (HS.out.kept hbw).row k (by rw [HL.out]; exact hlt)
      have HT : Hid (L.take (k + 1) = L.take k ++ [L[k]'(by rw [HL.out]; exact hlt)]) := Lib.hid (by rw [List.take_add_one, List.getElem?_eq_getElem (by rw [HL.out]; exact hlt)]; rfl)
      generalize L[k]'(by rw [HL.out]; exact hlt) = g at e0 e1 e2 HT
      obtain ⟨⟨gn, gv⟩, gb⟩ := g
      have HA := Lib.hid (allM_snoc (L.take k) ((gn, gv), gb) x)
      simp only at HA e0 e1 e2
      have hka : (0 : Int) ≤ (k : Int) := by omega
      have hkb : (k : Int) < (n : Int) := by omega
      have hw := hbw.size
      have hl : (allM (L.take k) x).length ≤ k := Nat.le_trans (allM_len _ _) (by simp; omega)
      have HOWN := Lib.hid hown
      have HB := Lib.hid hbw
      clear hown hbw
      by_cases he : gn = x
      · have HA2 : Hid (allM (L.take (k + 1)) x = allM (L.take k) x ++ [gv]) := Lib.hid (by rw [HT.out, HA.out, if_pos he])
        clear HA HT
        subst he
        have HBX : Hid (Below wr.heap.size wr (wr.alloc (.cells #[.string gn, .string gv, .bool gb] 54))) := Lib.hid ((Below.refl _ _).alloc (Nat.le_refl _) _)
        go_wp2_with (at_builtin; (refine wp_append_t rfl _ _ rfl _ (allM (L.take k) gn) [gv] rfl w.heap.size (HOWN.out.kept (HBX.out.alloc (by simp) _)) (some ⟨wr.heap.size + 1, 0, none⟩) 1 1 rfl (ts_new2 _ _ _) (by omega) (by simp; omega) ?_); intro w3 a3 N3 c3 hN3 hown3 hb3)
        refine ⟨⟨k + 1, N3, c3, a3, by go_num, rfl, ?_, by omega, ?_, ?_⟩, by simp [intOf]; omega⟩
        · rw [HA2.out]; exact hN3
        · rw [HA2.out]; exact hown3
        · exact (((HB.out.alloc hw _)).alloc (by simp; omega) _).trans hb3
      · have HA2 : Hid (allM (L.take (k + 1)) x = allM (L.take k) x) := Lib.hid (by rw [HT.out, HA.out, if_neg he])
        have hne := bne' he
        clear HA HT he
        go_wp2
        refine ⟨⟨k + 1, N, cc, ad, by go_num, rfl, ?_, by omega, ?_, ?_⟩, by simp [intOf]; omega⟩
        · rw [HA2.out]; exact hN
        · rw [HA2.out]; exact HOWN.out.kept ((Below.refl _ _).alloc (Nat.le_refl _) _)
        · exact HB.out.alloc hw _
    · obtain rfl : k = n := by omega
      have HT : L.take k = L := List.take_of_length_le (by rw [HL.out]; exact Nat.le_refl _)
      rw [HT] at hN hown
      go_wp2
      go_ret
      exact ⟨_, _, _, rfl, hN, hown, hbw⟩
end Go.Proofs.YtgoglfahlfkbiaaDoor
