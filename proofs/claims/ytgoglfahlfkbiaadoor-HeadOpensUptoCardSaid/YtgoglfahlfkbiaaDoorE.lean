/-
  CONTRACTS: a header's value.
-/
import Derived.Test.YtgoglfahlfkbiaaDoorEa
import Derived.Shelf.Strings.SlTrimAscii
namespace Go.Proofs.YtgoglfahlfkbiaaDoor
open Go.RowKit Tt Go.Lib

theorem set160 : (Tryd.prog.info? (Tryd.lays160_ren.t 116)).map (fun i => (i.zero, i.size)) = some (some (.agg (Array.replicate 256 (.bool false))), 256) := by kernel_rfl
theorem idxAny_any (s : ByteArray) (w : World) (hs : s.size ≤ 140737488355328) : Calls Tryd.prog 58 #[.string s, .string brkA] w (AnyPost s w) := by
  by_cases h8 : s.size ≤ 8
  · exact idxAny_short s w h8
  · exact idxAny_long s w (by omega) hs
theorem contAny_any (s : ByteArray) (w : World) (hs : s.size ≤ 140737488355328) : Calls Tryd.prog 44 #[.string s, .string brkA] w fun e w' => e = .returned (.bool (anyBrk s)) ∧ Below w.heap.size w w' := by
  have HI := Lib.hid (idxAny_any s w hs)
  go_enter Tryd.func44, Tryd.ntmps44
  go_wp2_with fail
  refine HI.out.mono ?_
  rintro e w' ⟨q, rfl, hq, hb⟩
  go_wp2_with fail
  go_ret
  exact ⟨by rw [← hq]; rfl, hb⟩
def blkA : ByteArray := ⟨#[32, 9]⟩
theorem trim_any (s : ByteArray) (w : World) (hs : s.size ≤ 9223372036854775807) : Calls Tryd.prog 45 #[.string s, .string blkA] w fun e w' => e = .returned (.string ⟨(Lib.trimS s.data.toList [32, 9]).toArray⟩) ∧ Below w.heap.size w w' :=
  Any.strings_Trim_laid Tryd.lays160 set160 s blkA w hs (by decide) (ascii_of [32, 9] (by decide))
def blankB (c : UInt8) : Bool := ([32, 9] : List UInt8).contains c
/-- Neither end is a blank. -/
def edgeB (l : List UInt8) : Bool := !(l.head?.any blankB) && !(l.getLast?.any blankB)
theorem trim_edge (l : List UInt8) : (Lib.trimS l [32, 9] = l) ↔ edgeB l = true := by
  have hd : ∀ m : List UInt8, m.dropWhile (([32, 9] : List UInt8).contains ·) = m ↔ (m.head?.any blankB) = false := fun m => by
    cases m with
    | nil => simp
    | cons c m =>
      simp only [List.dropWhile_cons, List.head?_cons, Option.any_some]
      by_cases hc : blankB c = true
      · have hc' : ([32, 9] : List UInt8).contains c = true := hc
        rw [if_pos hc']
        constructor
        · intro h
          have := congrArg List.length h
          have h2 := (List.dropWhile_sublist (l := m) (([32, 9] : List UInt8).contains ·)).length_le
          simp only [List.length_cons] at this
          omega
        · intro h
          rw [hc] at h
          cases h
      · have hc' : ¬ ([32, 9] : List UInt8).contains c = true := hc
        rw [if_neg hc']
        simp only [true_iff]
        simpa using hc
  have hlen : ∀ m : List UInt8, (m.dropWhile (([32, 9] : List UInt8).contains ·)).length ≤ m.length := fun m => (List.dropWhile_sublist _).length_le
  have hr : Lib.trimRightS l [32, 9] = l ↔ (l.getLast?.any blankB) = false := by
    unfold Lib.trimRightS
    rw [← List.head?_reverse, ← hd l.reverse]
    constructor
    · intro h
      have := congrArg List.reverse h
      rwa [List.reverse_reverse] at this
    · intro h
      rw [h, List.reverse_reverse]
  unfold edgeB
  rw [Bool.and_eq_true, Bool.not_eq_true', Bool.not_eq_true', ← hd l, ← hr]
  unfold Lib.trimS Lib.trimLeftS
  constructor
  · intro h
    have h1 := congrArg List.length h
    have h2 := hlen (Lib.trimRightS l [32, 9])
    have h3 : (Lib.trimRightS l [32, 9]).length ≤ l.length := by
      unfold Lib.trimRightS
      have := hlen l.reverse
      simpa using this
    have h4 : Lib.trimRightS l [32, 9] = l := by
      have hs : (Lib.trimRightS l [32, 9]).length = l.length := by omega
      unfold Lib.trimRightS at hs ⊢
      have hsub := List.dropWhile_sublist (l := l.reverse) (([32, 9] : List UInt8).contains ·)
      have := hsub.eq_of_length (by simpa using hs)
      rw [this, List.reverse_reverse]
    rw [h4] at h
    exact ⟨h, h4⟩
  · rintro ⟨h1, h2⟩
    rw [h2, h1]
/-- A header's value. -/
def valueB (s : ByteArray) : Bool := !anyBrk s && edgeB s.data.toList
set_option maxHeartbeats 1000000 in
theorem value_any (s : ByteArray) (w : World) (hs : s.size ≤ 140737488355328) : Calls Tryd.prog 25 #[.string s] w fun e w' => e = .returned (.bool (valueB s)) ∧ Below w.heap.size w w' := by
  have HC := Lib.hid (contAny_any s w (by omega))
  have HT := Lib.hid (fun W => trim_any s W (by omega))
  have hbk : brkA = ⟨#[0, 10, 13]⟩ := rfl
  have hbl : blkA = ⟨#[32, 9]⟩ := rfl
  rw [hbk] at HC
  rw [hbl] at HT
  clear hbk hbl
  unfold valueB
  cases hb : anyBrk s with
  | true =>
    rw [hb] at HC
    clear hb
    go_enter Tryd.func25, Tryd.ntmps25
    go_wp2_with fail
    refine HC.out.mono ?_
    rintro e w1 ⟨rfl, hb1⟩
    go_wp2_with fail
    go_ret
    exact ⟨rfl, hb1⟩
  | false =>
    rw [hb] at HC
    clear hb
    have he := trim_edge s.data.toList
    generalize Lib.trimS s.data.toList [32, 9] = T at he HT
    by_cases hT : T = s.data.toList
    · have hE := Lib.hid (he.1 hT)
      have e2 : (⟨T.toArray⟩ : ByteArray) = s := by subst hT; cases s; rfl
      rw [e2] at HT
      clear he hT e2
      go_enter Tryd.func25, Tryd.ntmps25
      go_wp2_with fail
      refine HC.out.mono ?_
      rintro e w1 ⟨rfl, hb1⟩
      go_wp2_with fail
      refine (HT.out _).mono ?_
      rintro e w2 ⟨rfl, hb2⟩
      go_wp2_with fail
      go_ret
      exact ⟨by rw [hE.out]; simp, hb1.trans (hb2.mono hb1.size)⟩
    · have hE := Lib.hid (show edgeB s.data.toList = false by
        rw [Bool.eq_false_iff]
        exact fun h => hT (he.2 h))
      have e2 : ¬ s.toList = (⟨T.toArray⟩ : ByteArray).toList := by
        rw [Lib.toList_data, Lib.toList_data]
        exact fun e => hT e.symm
      generalize (⟨T.toArray⟩ : ByteArray) = Q at HT e2
      clear he hT
      go_enter Tryd.func25, Tryd.ntmps25
      go_wp2_with fail
      refine HC.out.mono ?_
      rintro e w1 ⟨rfl, hb1⟩
      go_wp2_with fail
      refine (HT.out _).mono ?_
      rintro e w2 ⟨rfl, hb2⟩
      go_wp2_with fail
      go_ret
      exact ⟨by rw [hE.out]; simp_all, hb1.trans (hb2.mono hb1.size)⟩
end Go.Proofs.YtgoglfahlfkbiaaDoor
