/-
  CONTRACTS: the document's names, values, Static.
-/
import Derived.Test.YtlkieeindnpidaaDoorTtS
namespace Go.Proofs.YtlkieeindnpidaaDoor.Tt
open Go.RowKit

def nmA : Array Value := #[Value.string ⟨#[]⟩, Value.string ⟨#[58, 97, 117, 116, 104, 111, 114, 105, 116, 121]⟩, Value.string ⟨#[58, 109, 101, 116, 104, 111, 100]⟩, Value.string ⟨#[58, 109, 101, 116, 104, 111, 100]⟩, Value.string ⟨#[58, 112, 97, 116, 104]⟩, Value.string ⟨#[58, 112, 97, 116, 104]⟩, Value.string ⟨#[58, 115, 99, 104, 101, 109, 101]⟩, Value.string ⟨#[58, 115, 99, 104, 101, 109, 101]⟩, Value.string ⟨#[58, 115, 116, 97, 116, 117, 115]⟩, Value.string ⟨#[58, 115, 116, 97, 116, 117, 115]⟩, Value.string ⟨#[58, 115, 116, 97, 116, 117, 115]⟩, Value.string ⟨#[58, 115, 116, 97, 116, 117, 115]⟩, Value.string ⟨#[58, 115, 116, 97, 116, 117, 115]⟩, Value.string ⟨#[58, 115, 116, 97, 116, 117, 115]⟩, Value.string ⟨#[58, 115, 116, 97, 116, 117, 115]⟩, Value.string ⟨#[97, 99, 99, 101, 112, 116, 45, 99, 104, 97, 114, 115, 101, 116]⟩, Value.string ⟨#[97, 99, 99, 101, 112, 116, 45, 101, 110, 99, 111, 100, 105, 110, 103]⟩, Value.string ⟨#[97, 99, 99, 101, 112, 116, 45, 108, 97, 110, 103, 117, 97, 103, 101]⟩, Value.string ⟨#[97, 99, 99, 101, 112, 116, 45, 114, 97, 110, 103, 101, 115]⟩, Value.string ⟨#[97, 99, 99, 101, 112, 116]⟩, Value.string ⟨#[97, 99, 99, 101, 115, 115, 45, 99, 111, 110, 116, 114, 111, 108, 45, 97, 108, 108, 111, 119, 45, 111, 114, 105, 103, 105, 110]⟩, Value.string ⟨#[97, 103, 101]⟩, Value.string ⟨#[97, 108, 108, 111, 119]⟩, Value.string ⟨#[97, 117, 116, 104, 111, 114, 105, 122, 97, 116, 105, 111, 110]⟩, Value.string ⟨#[99, 97, 99, 104, 101, 45, 99, 111, 110, 116, 114, 111, 108]⟩, Value.string ⟨#[99, 111, 110, 116, 101, 110, 116, 45, 100, 105, 115, 112, 111, 115, 105, 116, 105, 111, 110]⟩, Value.string ⟨#[99, 111, 110, 116, 101, 110, 116, 45, 101, 110, 99, 111, 100, 105, 110, 103]⟩, Value.string ⟨#[99, 111, 110, 116, 101, 110, 116, 45, 108, 97, 110, 103, 117, 97, 103, 101]⟩, Value.string ⟨#[99, 111, 110, 116, 101, 110, 116, 45, 108, 101, 110, 103, 116, 104]⟩, Value.string ⟨#[99, 111, 110, 116, 101, 110, 116, 45, 108, 111, 99, 97, 116, 105, 111, 110]⟩, Value.string ⟨#[99, 111, 110, 116, 101, 110, 116, 45, 114, 97, 110, 103, 101]⟩, Value.string ⟨#[99, 111, 110, 116, 101, 110, 116, 45, 116, 121, 112, 101]⟩, Value.string ⟨#[99, 111, 111, 107, 105, 101]⟩, Value.string ⟨#[100, 97, 116, 101]⟩, Value.string ⟨#[101, 116, 97, 103]⟩, Value.string ⟨#[101, 120, 112, 101, 99, 116]⟩, Value.string ⟨#[101, 120, 112, 105, 114, 101, 115]⟩, Value.string ⟨#[102, 114, 111, 109]⟩, Value.string ⟨#[104, 111, 115, 116]⟩, Value.string ⟨#[105, 102, 45, 109, 97, 116, 99, 104]⟩, Value.string ⟨#[105, 102, 45, 109, 111, 100, 105, 102, 105, 101, 100, 45, 115, 105, 110, 99, 101]⟩, Value.string ⟨#[105, 102, 45, 110, 111, 110, 101, 45, 109, 97, 116, 99, 104]⟩, Value.string ⟨#[105, 102, 45, 114, 97, 110, 103, 101]⟩, Value.string ⟨#[105, 102, 45, 117, 110, 109, 111, 100, 105, 102, 105, 101, 100, 45, 115, 105, 110, 99, 101]⟩, Value.string ⟨#[108, 97, 115, 116, 45, 109, 111, 100, 105, 102, 105, 101, 100]⟩, Value.string ⟨#[108, 105, 110, 107]⟩, Value.string ⟨#[108, 111, 99, 97, 116, 105, 111, 110]⟩, Value.string ⟨#[109, 97, 120, 45, 102, 111, 114, 119, 97, 114, 100, 115]⟩, Value.string ⟨#[112, 114, 111, 120, 121, 45, 97, 117, 116, 104, 101, 110, 116, 105, 99, 97, 116, 101]⟩, Value.string ⟨#[112, 114, 111, 120, 121, 45, 97, 117, 116, 104, 111, 114, 105, 122, 97, 116, 105, 111, 110]⟩, Value.string ⟨#[114, 97, 110, 103, 101]⟩, Value.string ⟨#[114, 101, 102, 101, 114, 101, 114]⟩, Value.string ⟨#[114, 101, 102, 114, 101, 115, 104]⟩, Value.string ⟨#[114, 101, 116, 114, 121, 45, 97, 102, 116, 101, 114]⟩, Value.string ⟨#[115, 101, 114, 118, 101, 114]⟩, Value.string ⟨#[115, 101, 116, 45, 99, 111, 111, 107, 105, 101]⟩, Value.string ⟨#[115, 116, 114, 105, 99, 116, 45, 116, 114, 97, 110, 115, 112, 111, 114, 116, 45, 115, 101, 99, 117, 114, 105, 116, 121]⟩, Value.string ⟨#[116, 114, 97, 110, 115, 102, 101, 114, 45, 101, 110, 99, 111, 100, 105, 110, 103]⟩, Value.string ⟨#[117, 115, 101, 114, 45, 97, 103, 101, 110, 116]⟩, Value.string ⟨#[118, 97, 114, 121]⟩, Value.string ⟨#[118, 105, 97]⟩, Value.string ⟨#[119, 119, 119, 45, 97, 117, 116, 104, 101, 110, 116, 105, 99, 97, 116, 101]⟩]
def vlA : Array Value := #[Value.string ⟨#[]⟩, Value.string ⟨#[]⟩, Value.string ⟨#[71, 69, 84]⟩, Value.string ⟨#[80, 79, 83, 84]⟩, Value.string ⟨#[47]⟩, Value.string ⟨#[47, 105, 110, 100, 101, 120, 46, 104, 116, 109, 108]⟩, Value.string ⟨#[104, 116, 116, 112]⟩, Value.string ⟨#[104, 116, 116, 112, 115]⟩, Value.string ⟨#[50, 48, 48]⟩, Value.string ⟨#[50, 48, 52]⟩, Value.string ⟨#[50, 48, 54]⟩, Value.string ⟨#[51, 48, 52]⟩, Value.string ⟨#[52, 48, 48]⟩, Value.string ⟨#[52, 48, 52]⟩, Value.string ⟨#[53, 48, 48]⟩, Value.string ⟨#[]⟩, Value.string ⟨#[103, 122, 105, 112, 44, 32, 100, 101, 102, 108, 97, 116, 101]⟩, Value.string ⟨#[]⟩, Value.string ⟨#[]⟩, Value.string ⟨#[]⟩, Value.string ⟨#[]⟩, Value.string ⟨#[]⟩, Value.string ⟨#[]⟩, Value.string ⟨#[]⟩, Value.string ⟨#[]⟩, Value.string ⟨#[]⟩, Value.string ⟨#[]⟩, Value.string ⟨#[]⟩, Value.string ⟨#[]⟩, Value.string ⟨#[]⟩, Value.string ⟨#[]⟩, Value.string ⟨#[]⟩, Value.string ⟨#[]⟩, Value.string ⟨#[]⟩, Value.string ⟨#[]⟩, Value.string ⟨#[]⟩, Value.string ⟨#[]⟩, Value.string ⟨#[]⟩, Value.string ⟨#[]⟩, Value.string ⟨#[]⟩, Value.string ⟨#[]⟩, Value.string ⟨#[]⟩, Value.string ⟨#[]⟩, Value.string ⟨#[]⟩, Value.string ⟨#[]⟩, Value.string ⟨#[]⟩, Value.string ⟨#[]⟩, Value.string ⟨#[]⟩, Value.string ⟨#[]⟩, Value.string ⟨#[]⟩, Value.string ⟨#[]⟩, Value.string ⟨#[]⟩, Value.string ⟨#[]⟩, Value.string ⟨#[]⟩, Value.string ⟨#[]⟩, Value.string ⟨#[]⟩, Value.string ⟨#[]⟩, Value.string ⟨#[]⟩, Value.string ⟨#[]⟩, Value.string ⟨#[]⟩, Value.string ⟨#[]⟩, Value.string ⟨#[]⟩]
theorem nm_at : ∀ i, i < 61 → nmA[i + 1]? = some (.string (stH i).1) := by
  intro i hi
  have h : (List.range 61).map (fun i => nmA[i + 1]?) = (List.range 61).map (fun i => some (Value.string (stH i).1)) := by kernel_rfl
  exact List.map_inj_left.1 h i (List.mem_range.2 hi)
theorem vl_at : ∀ i, i < 61 → vlA[i + 1]? = some (.string (stH i).2) := by
  intro i hi
  have h : (List.range 61).map (fun i => vlA[i + 1]?) = (List.range 61).map (fun i => some (Value.string (stH i).2)) := by kernel_rfl
  exact List.map_inj_left.1 h i (List.mem_range.2 hi)
set_option maxRecDepth 100000 in
theorem names_any (w : World) : Calls Tryd.prog 96 #[] w fun e w' => e = .returned (.slice (some ⟨w.heap.size, 0, none⟩) 62 62) ∧ w' = w.alloc (.cells nmA 9) := by
  go_enter Tryd.func96, Tryd.ntmps96
  go_wp2
  go_ret
  exact ⟨rfl, rfl⟩
set_option maxRecDepth 100000 in
theorem values_any (w : World) : Calls Tryd.prog 97 #[] w fun e w' => e = .returned (.slice (some ⟨w.heap.size, 0, none⟩) 62 62) ∧ w' = w.alloc (.cells vlA 9) := by
  go_enter Tryd.func97, Tryd.ntmps97
  go_wp2
  go_ret
  exact ⟨rfl, rfl⟩
set_option maxRecDepth 100000 in
set_option maxHeartbeats 1000000 in
theorem staticr_yes (j : Nat) (hj1 : 1 ≤ j) (hj2 : j < 62) (w : World) : Calls Tryd.prog 104 #[.int .i64 (j : Int)] w fun e w' => e = .returned (.tuple #[hdV (stH (j - 1)), .bool true]) ∧ Below w.heap.size w w' := by
  have hn := nm_at (j - 1) (by omega)
  have hv := vl_at (j - 1) (by omega)
  rw [Nat.sub_add_cancel hj1] at hn hv
  have h0 : (0 : Int) ≤ (j : Int) := by omega
  have h1 : (1 : Int) ≤ (j : Int) := by omega
  have h2 : (j : Int) < 62 := by omega
  have hB : ∀ ob, Below w.heap.size w (w.alloc ob) := fun ob => (Below.refl _ w).alloc (Nat.le_refl _) ob
  generalize stH (j - 1) = g at hn hv ⊢
  have hN := Lib.hid (fun W => names_any W)
  have hV := Lib.hid (fun W => values_any W)
  go_enter Tryd.func104, Tryd.ntmps104
  go_wp2_with fail
  go_region_law (go_simp; (first | ((with_reducible_and_instances refine Calls.mono (hN.out _) ?_)) | ((with_reducible_and_instances refine Calls.mono (hV.out _) ?_))); rintro e w' ⟨rfl, rfl⟩; go_simp)
  all_goals go_wp2
  all_goals refine bodyPost_ret (v := .tuple #[hdV g, .bool true]) (by simp [results, Tryd.results104, go_sem]) rfl ⟨rfl, ?_⟩
  all_goals (repeat (first | exact hB _ | (refine Below.setCell ?_ (by first | omega | (simp; omega) | simp) _) | (refine Below.drew ?_) | (refine Below.alloc ?_ (by first | omega | (simp; omega) | simp) _)))
set_option maxRecDepth 100000 in
theorem staticr_no (i : Int) (hi : i < 1 ∨ 61 < i) (w : World) : Calls Tryd.prog 104 #[.int .i64 i] w fun e w' => e = .returned (.tuple #[hdV (⟨#[]⟩, ⟨#[]⟩), .bool false]) ∧ Below w.heap.size w w' := by
  rcases hi with h | h
  · go_enter Tryd.func104, Tryd.ntmps104
    go_wp2
    refine bodyPost_ret (v := .tuple #[hdV (⟨#[]⟩, ⟨#[]⟩), .bool false]) (by simp [results, Tryd.results104, go_sem]) rfl ⟨rfl, ?_⟩
    (repeat (first | exact Below.refl _ _ | (refine Below.setCell ?_ (by first | omega | (simp; omega) | simp) _) | (refine Below.alloc ?_ (by first | omega | (simp; omega) | simp) _)))
  · have h' : 62 ≤ i := by omega
    go_enter Tryd.func104, Tryd.ntmps104
    go_wp2
    refine bodyPost_ret (v := .tuple #[hdV (⟨#[]⟩, ⟨#[]⟩), .bool false]) (by simp [results, Tryd.results104, go_sem]) rfl ⟨rfl, ?_⟩
    (repeat (first | exact Below.refl _ _ | (refine Below.setCell ?_ (by first | omega | (simp; omega) | simp) _) | (refine Below.alloc ?_ (by first | omega | (simp; omega) | simp) _)))
end Go.Proofs.YtlkieeindnpidaaDoor.Tt
