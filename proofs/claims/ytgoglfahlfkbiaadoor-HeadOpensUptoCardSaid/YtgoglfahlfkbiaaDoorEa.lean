/-
  CONTRACT: strings.IndexAny at three ASCII bytes, a text of more than eight bytes (of any size that lies in memory).
-/
import Derived.Test.YtgoglfahlfkbiaaDoorD
import Derived.Shelf.Strings.SlTrimAscii
namespace Go.Proofs.YtgoglfahlfkbiaaDoor
open Go.RowKit Tt Go.Lib

theorem set153 : (Tryd.prog.info? (Tryd.lays153_ren.t 116)).map (fun i => (i.zero, i.size)) = some (some (.agg (Array.replicate 256 (.bool false))), 256) := by kernel_rfl
theorem ascii_of (l : List UInt8) (h : l.all (fun b => decide (b.toNat < 128)) = true) : ∀ (j : Nat) b, (⟨l.toArray⟩ : ByteArray).data.toList[j]? = some b → b.toNat < 128 := fun _ b hb =>
  of_decide_eq_true (List.all_eq_true.1 h b (List.mem_of_getElem? hb))
theorem mkSet (w : World) : Calls Tryd.prog 61 #[.string brkA] w fun e w' => e = .returned (.tuple #[.agg (Lib.setCells brkL), .bool true]) ∧ w' = w.alloc (.cells (Lib.setCells brkL) 99) := by
  have h := Any.strings_makeASCIISet { Tryd.lays153 with } (zero_of_info set153).1 (zero_of_info set153).2 brkA w (by decide) (ascii_of [0, 10, 13] (by decide))
  exact h
theorem useSet (n : Int) (w : World) : Calls Tryd.prog 73 #[.int .i64 n] w fun e w' => e = .returned (.bool (decide (8 < n))) ∧ w' = w := by
  have h := Any.strings_shouldUseASCIISet { Tryd.lays153 with } n w
  refine Calls.mono (show Calls Tryd.prog 73 _ _ _ from h) ?_
  intro e w' h
  exact h
theorem hasSet (q : Nat) (x : UInt8) (b : Bool) (w : World) (h : w.cell? ⟨q, x.toNat, none⟩ = some (.bool b)) : Calls Tryd.prog 74 #[.pointer (some ⟨q, 0, none⟩), .int .u8 (x.toNat : Int)] w fun e w' => e = .returned (.bool b) ∧ w' = w := by
  have h := Any.asciiSet_contains { Tryd.lays153 with } q x b w h
  refine Calls.mono (show Calls Tryd.prog 74 _ _ _ from h) ?_
  intro e w' h
  exact h
set_option maxRecDepth 100000 in
set_option maxHeartbeats 4000000 in
theorem idxAny_long (s : ByteArray) (w : World) (h8 : 8 < s.size) (hs : s.size ≤ 140737488355328) : Calls Tryd.prog 58 #[.string s, .string brkA] w (AnyPost s w) := by
  have HM := Lib.hid mkSet
  have HU := Lib.hid useSet
  have HH := Lib.hid hasSet
  have h8z : decide ((8 : Int) < (s.size : Int)) = true := decide_eq_true (by omega)
  have HZ : Hid ((Lib.setCells brkL).size = 256) := Lib.hid (Lib.setCells_size _)
  have HC : Hid (∀ (q : Nat) (W : World) (x : UInt8), q = W.heap.size → (W.alloc (.cells (Lib.setCells brkL) 99)).cell? ⟨q, x.toNat, none⟩ = some (.bool (brkL.contains x))) := Lib.hid fun q W x hq => by
    rw [World.cell?_alloc_at _ _ _ _ hq, Lib.setCells_at]
  have HS : Hid (∀ (W : World) (q : Nat), q = W.heap.size → (storeCells ⟨q, 0, none⟩ (Lib.setCells brkL).toList 0).run Tryd.prog (W.alloc (.cells Tryd.zeroCells99 99)) = .ok () (W.alloc (.cells (Lib.setCells brkL) 99))) := Lib.hid fun W q hq => by
    subst hq
    exact run_storeCells_new W _ _ _ (by rw [Lib.setCells_size]; exact (zero_of_info set153).2) (by rw [Lib.setCells_size]; kernel_rfl) (Lib.setCells_one _)
  have hbr : brkA = ⟨#[0, 10, 13]⟩ := rfl
  rw [hbr] at HM ⊢
  generalize Lib.setCells brkL = S at HM HZ HC HS
  clear hbr
  go_enter Tryd.func58, Tryd.ntmps58
  go_wp2_with fail
  refine (HU.out _ _).mono ?_
  rintro e w' ⟨rfl, rfl⟩
  rw [h8z]
  go_wp2_with fail
  refine (HM.out _).mono ?_
  rintro e w1 ⟨rfl, rfl⟩
  go_wp2_with fail
  rw [HS.out _ _ (by simp)]
  simp only [Result.andThen]
  rw [Oper.upon_skip]
  have HX : Hid (∀ x : UInt8, ((w'.alloc (.cells S 99)).alloc (.cells S 99)).cell? ⟨w'.heap.size + 1, x.toNat, none⟩ = some (.bool (brkL.contains x))) := Lib.hid fun x => HC.out _ _ _ (by simp)
  have HB : Hid (Below w'.heap.size w' ((w'.alloc (.cells S 99)).alloc (.cells S 99))) := Lib.hid (((Below.refl _ _).alloc (Nat.le_refl _) _).alloc (by simp) _)
  generalize (w'.alloc (.cells S 99)).alloc (.cells S 99) = W at HX HB
  clear HS HC HZ HM HU
  go_wp2_with fail
  go_loop [8] (fun s8 => ∃ i : Nat, s8 = .int .i64 (i : Int) ∧ i ≤ s.size ∧ Hid (∀ j (hj : j < s.size), j < i → brkL.contains (s[j]) = false)) (fun s8 => s.size - (RowKit.intOf s8).toNat)
  case atStart => exact ⟨0, rfl, Nat.zero_le _, Lib.hid fun j _ h => by omega⟩
  case round =>
    obtain ⟨i, rfl, hi, HNO⟩ := hrel
    by_cases hlt : i < s.size
    · have HY := Lib.hid (fun h => any_yes (s := s) hlt h)
      have HN2 : Hid (brkL.contains (s[i]) = false → ∀ j (hj : j < s.size), j < i + 1 → brkL.contains (s[j]) = false) := Lib.hid fun hc j hj h => by
        by_cases hji : j < i
        · exact HNO.out j hj hji
        · obtain rfl : j = i := by omega
          exact hc
      have HG := Lib.hid (HH.out (w'.heap.size + 1) (s[i]) _ W (HX.out _))
      cases hc : brkL.contains (s[i]) with
      | true =>
        rw [hc] at HG
        have HY2 := Lib.hid (HY.out hc)
        clear hc HN2 HY
        go_wp2_with fail
        refine HG.out.mono ?_
        rintro e w3 ⟨rfl, rfl⟩
        go_wp2_with fail
        go_ret
        exact ⟨(i : Int), rfl, by rw [HY2.out]; exact decide_eq_true (by omega), HB.out⟩
      | false =>
        rw [hc] at HG
        have HN3 := Lib.hid (HN2.out hc)
        clear hc HN2 HY
        go_wp2_with fail
        refine HG.out.mono ?_
        rintro e w3 ⟨rfl, rfl⟩
        go_wp2_with fail
        refine ⟨⟨i + 1, by go_num, by omega, HN3⟩, by simp [RowKit.intOf]; omega⟩
    · obtain rfl : i = s.size := by omega
      have HN := Lib.hid (any_no fun j hj => HNO.out j hj hj)
      go_wp2_with fail
      go_ret
      exact ⟨-1, rfl, by rw [HN.out]; rfl, HB.out⟩
end Go.Proofs.YtgoglfahlfkbiaaDoor
