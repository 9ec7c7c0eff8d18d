/-
  THE DOCUMENT's TABLE: Find.
-/
import Derived.Test.YtbdpeioafelolaaDoorZ
namespace Go.Proofs.YtbdpeioafelolaaDoor
open Go.RowKit

theorem fnd_of {name value : ByteArray} {pre l : List Told} {x : Told} (hp : pre ++ [x] <+: l) (hno : ∀ y ∈ pre, hit name value y = false) (hx : hit name value x = true) : fnd name value l = (x.1, true) := by
  obtain ⟨t, rfl⟩ := hp
  have h0 : pre.find? (hit name value) = none := List.find?_eq_none.2 (fun y hy => by simp [hno y hy])
  unfold fnd
  rw [List.append_assoc, List.find?_append, h0]
  simp [hx]
theorem fnd_no {name value : ByteArray} {l : List Told} (hno : ∀ y ∈ l, hit name value y = false) : fnd name value l = (lea name l, false) := by
  have h0 : l.find? (hit name value) = none := List.find?_eq_none.2 (fun y hy => by simp [hno y hy])
  unfold fnd
  rw [h0]
theorem ba_eq {a c : ByteArray} (h : a = c) : (a.toList == c.toList) = true := by subst h; simp
def DF1 (name value : ByteArray) (W2 : World) (s10 s11 : Value) (wr : World) : Prop := ∃ k : Nat, s11 = .int .i64 ((k + 1 : Nat) : Int) ∧ s10 = .int .i64 (lea name (stU k) : Int) ∧ k ≤ 61 ∧ (∀ y ∈ stU k, hit name value y = false) ∧ wr = W2
def DF2 (name value : ByteArray) (M : List Hd) (W2 : World) (s10 s12 : Value) (wr : World) : Prop := ∃ k : Nat, s12 = .int .i64 (k : Int) ∧ s10 = .int .i64 (lea name (stU 61 ++ tabU M k) : Int) ∧ k ≤ M.length ∧ (∀ y ∈ stU 61 ++ tabU M k, hit name value y = false) ∧ wr = W2
set_option maxRecDepth 100000 in
set_option maxHeartbeats 8000000 in
theorem dfind_any (x m : Nat) (name value : ByteArray) (M : List Hd) (w : World) (hd : Dt w x M.reverse m) (hlm : M.length ≤ 1000) :
    Calls Tryd.prog 19 #[.pointer (some ⟨x, 0, none⟩), .string name, .string value] w fun e w' => e = .returned (.tuple #[.int .i64 ((fnd name value (allL M)).1 : Int), .bool (fnd name value (allL M)).2]) ∧ Below w.heap.size w w' := by
  have hB : Below w.heap.size w ((w.alloc (.cells nmA 9)).alloc (.cells vlA 9)) := ((Below.refl _ w).alloc (Nat.le_refl _) _).alloc (by simp) _
  have hd2 := hd.below hB
  have hnm : ∀ i, i < 61 → ((w.alloc (.cells nmA 9)).alloc (.cells vlA 9)).cell? ⟨w.heap.size, i + 1, none⟩ = some (.string (stH i).1) := fun i hi =>
    (((Below.refl _ (w.alloc (.cells nmA 9))).alloc (Nat.le_refl _) (.cells vlA 9)).cell (p := ⟨w.heap.size, i + 1, none⟩) (by simp)).trans (by simpa using nm_at i hi)
  have hvl : ∀ i, i < 61 → ((w.alloc (.cells nmA 9)).alloc (.cells vlA 9)).cell? ⟨w.heap.size + 1, i + 1, none⟩ = some (.string (stH i).2) := fun i hi => by
    have := vl_at i hi
    have e : (w.alloc (.cells nmA 9)).heap.size = w.heap.size + 1 := by simp
    rw [← e]
    simpa using this
  have hlt := hd.lt
  have HB := Lib.hid hB
  have HD := Lib.hid hd2
  have HNM := Lib.hid hnm
  have HVL := Lib.hid hvl
  obtain ⟨a, c, q0, how⟩ := hd2.row
  obtain ⟨a', c', e', HS⟩ := how.hs
  cases e'
  have hrl : M.reverse.length = M.length := by simp
  rw [hrl] at q0
  clear hB hd2 hnm hvl how hd
  go_enter Tryd.func19, Tryd.ntmps19
  go_wp2_with fail
  refine (names_any _).mono ?_
  rintro e w' ⟨rfl, rfl⟩
  go_wp2_with fail
  refine (values_any _).mono ?_
  rintro e w' ⟨rfl, rfl⟩
  have e1 : (w.alloc (.cells nmA 9)).heap.size = w.heap.size + 1 := by simp
  rw [e1]
  generalize (w.alloc (.cells nmA 9)).alloc (.cells vlA 9) = W2 at HB HD HNM HVL q0 HS ⊢
  have HSH := Lib.hid HS
  clear HS e1
  go_wp2_with fail
  go_loopw [10, 11] (fun s10 s11 wr => DF1 name value W2 s10 s11 wr) (fun _ s11 _ => 62 - (intOf s11).toNat)
  case atStart => exact ⟨0, rfl, by simp [stU, lea], by omega, by simp [stU], rfl⟩
  case round =>
    obtain ⟨k, rfl, rfl, hk, hno, hwr⟩ := hrel
    have hwr' := hwr.symm
    subst hwr'
    by_cases hlt : k < 61
    · have e0 := HNM.out k hlt
      have e1 := HVL.out k hlt
      have hs := stU_succ k
      have HL := lea_snoc name (stU k) (k + 1, stH k)
      have HPR := stU_pre M (k := k + 1) (by omega)
      rw [hs] at HPR
      have HNS := fun h => no_snoc (x := (k + 1, stH k)) hno h
      rw [← hs] at HL HNS
      have HIT : hit name value (k + 1, stH k) = (decide ((stH k).1 = name) && decide ((stH k).2 = value)) := rfl
      have HFO := fun h => fnd_of HPR hno h
      generalize stH k = g at e0 e1 HL HNS HIT HFO
      clear HPR hs
      generalize lea name (stU k) = F at HL
      replace HL := Lib.hid HL
      replace HNS := Lib.hid HNS
      replace HFO := Lib.hid HFO
      have hka : (0 : Int) ≤ ((k + 1 : Nat) : Int) := by omega
      have hkb : ((k + 1 : Nat) : Int) < 62 := by omega
      have hkc : ((k + 1 : Nat) : Int) = (k : Int) + 1 := by simp
      by_cases h1 : g.1 = name
      · have hn1 := ba_eq h1
        by_cases h2 : g.2 = value
        · have hn2 := ba_eq h2
          go_wp2
          refine bodyPost_ret (v := .tuple #[.int .i64 (((k + 1 : Nat)) : Int), .bool true]) (by simp [results, Tryd.results19, go_sem]) rfl ⟨?_, HB.out⟩
          rw [HFO.out (by rw [HIT]; simp [h1, h2])]
        · have hn2 := ba_ne h2
          have hno' := HNS.out (by rw [HIT]; simp [h2])
          have hl := HL.out
          rw [if_pos h1] at hl
          by_cases h0 : F = 0
          · have hf0 : ((F : Int) == 0) = true := by rw [h0]; rfl
            rw [if_pos h0] at hl
            go_wp2
            exact ⟨⟨k + 1, by go_num, by rw [hl], by omega, hno', rfl⟩, by simp [intOf]; omega⟩
          · have hf0 : ((F : Int) == 0) = false := by rw [beq_eq_false_iff_ne]; omega
            rw [if_neg h0] at hl
            go_wp2
            exact ⟨⟨k + 1, by go_num, by rw [hl], by omega, hno', rfl⟩, by simp [intOf]; omega⟩
      · have hn1 := ba_ne h1
        have hno' := HNS.out (by rw [HIT]; simp [h1])
        have hl := HL.out
        rw [if_neg h1] at hl
        go_wp2
        exact ⟨⟨k + 1, by go_num, by rw [hl], by omega, hno', rfl⟩, by simp [intOf]; omega⟩
    · obtain rfl : k = 61 := by omega
      have hno61 := hno
      clear HNM HVL
      go_wp2_with fail
      go_loopw [10, 12] (fun s10 s12 wr => DF2 name value M W2 s10 s12 wr) (fun _ s12 _ => M.length - (intOf s12).toNat)
      case atStart => exact ⟨0, rfl, by simp [tabU], by omega, by simpa [tabU] using hno61, rfl⟩
      case round =>
        obtain ⟨k, rfl, rfl, hk, hno, hwr⟩ := hrel
        have hwr' := hwr.symm
        subst hwr'
        clear hno61
        by_cases hlt : k < M.length
        · obtain ⟨b, o, rfl, e0, e1, _⟩ := HSH.out.row k (by rw [hrl]; exact hlt)
          rw [nth_rev] at e0 e1
          have hs := tabU_succ M k
          have HL := lea_snoc name (stU 61 ++ tabU M k) (62 + k, nth M k)
          have HPR := tabU_pre M (k := k + 1) (by omega)
          rw [hs, ← List.append_assoc] at HPR
          have HNS := fun h => no_snoc (x := (62 + k, nth M k)) hno h
          rw [List.append_assoc, ← hs] at HL HNS
          have HIT : hit name value (62 + k, nth M k) = (decide ((nth M k).1 = name) && decide ((nth M k).2 = value)) := rfl
          have HFO := fun h => fnd_of HPR hno h
          generalize nth M k = g at e0 e1 HL HNS HIT HFO
          clear HPR hs
          generalize lea name (stU 61 ++ tabU M k) = F at HL
          replace HL := Lib.hid HL
          replace HNS := Lib.hid HNS
          replace HFO := Lib.hid HFO
          have hka : (0 : Int) ≤ (k : Int) := by omega
          have hkb : (k : Int) < (M.length : Int) := by omega
          have hkc : IntKind.i64.wrap ((62 : Int) + (k : Int)) = (62 : Int) + (k : Int) := IntWalk.i64_in _ (by omega)
          by_cases h1 : g.1 = name
          · have hn1 := ba_eq h1
            by_cases h2 : g.2 = value
            · have hn2 := ba_eq h2
              go_wp2
              refine bodyPost_ret (v := .tuple #[.int .i64 ((62 : Int) + (k : Int)), .bool true]) (by simp [results, Tryd.results19, go_sem]) rfl ⟨?_, HB.out⟩
              rw [HFO.out (by rw [HIT]; simp [h1, h2])]
              simp
            · have hn2 := ba_ne h2
              have hno' := HNS.out (by rw [HIT]; simp [h2])
              have hl := HL.out
              rw [if_pos h1] at hl
              by_cases h0 : F = 0
              · have hf0 : ((F : Int) == 0) = true := by rw [h0]; rfl
                rw [if_pos h0] at hl
                go_wp2
                exact ⟨⟨k + 1, by go_num, by rw [hl]; simp, by omega, hno', rfl⟩, by simp [intOf]; omega⟩
              · have hf0 : ((F : Int) == 0) = false := by rw [beq_eq_false_iff_ne]; omega
                rw [if_neg h0] at hl
                go_wp2
                exact ⟨⟨k + 1, by go_num, by rw [hl], by omega, hno', rfl⟩, by simp [intOf]; omega⟩
          · have hn1 := ba_ne h1
            have hno' := HNS.out (by rw [HIT]; simp [h1])
            have hl := HL.out
            rw [if_neg h1] at hl
            go_wp2
            exact ⟨⟨k + 1, by go_num, by rw [hl], by omega, hno', rfl⟩, by simp [intOf]; omega⟩
        · obtain rfl : k = M.length := by omega
          have hfn := fnd_no hno
          go_wp2_with fail
          refine bodyPost_ret (v := .tuple #[.int .i64 (lea name (stU 61 ++ tabU M M.length) : Int), .bool false]) (by simp [results, Tryd.results19, go_sem]) rfl ⟨?_, HB.out⟩
          unfold allL
          rw [hfn]
end Go.Proofs.YtbdpeioafelolaaDoor
