/- Contracts of New; the document's example. -/
import Derived.Test.YtjgclehghnmhnaaDoorSTake
namespace Go.Proofs.YtjgclehghnmhnaaDoor
open Go.RowKit

theorem mk_int (n : Nat) (hn : n ≤ 4096) (W : World) : (Instr.makeSlice 78 (.int .i64 n) (.int .i64 n)).run Tryd.prog W = .ok (.slice (some ⟨W.heap.size, 0, none⟩) n n) (W.alloc (.cells (madeCells #[.int .i64 0] n) 3)) := by
  obtain ⟨i0, hi, hz0, hz1, hz2⟩ := info_parts info3
  have h := run_make (P := Tryd.prog) W 78 3 i0 (.int .i64 0) Tryd.underlying78 hi hz0 .i64 .i64 n n (by omega) (Int.le_refl _) (by rw [hz2]; omega) (by omega)
  simpa [hz1, show (Value.int .i64 0).cells = #[.int .i64 0] from rfl] using h

theorem new_none (m : Int) (hm : m < 1 ∨ 4096 < m) (w : World) :
    Calls Tryd.prog 29 #[.int .i64 m] w fun e w' => e = .returned (.pointer none) ∧ w' = w := by
  by_cases h : m < 1
  · go_enter Tryd.func29, Tryd.ntmps29
    go_wp2_with fail
    go_ret
    exact ⟨rfl, rfl⟩
  · have h2 : 4096 < m := by omega
    go_enter Tryd.func29, Tryd.ntmps29
    go_wp2_with fail
    go_ret
    exact ⟨rfl, rfl⟩

/-- The zero of Slots. -/
def z53 : Array Value := ((List.replicate 64 0).map (fun x : Nat => Value.int .u64 x) ++ [Value.slice none 0 0]).toArray
theorem size53 : z53.size = 65 := rfl
theorem infoz53 : (Tryd.prog.info? 95).map (·.zero) = some (some (.agg z53)) := by kernel_rfl
theorem zero53 (W : World) : (zeroValue 95).run Tryd.prog W = .ok (.agg z53) W := by
  obtain ⟨i, hi, hz⟩ := Option.map_eq_some_iff.1 infoz53
  simp [zeroValue, typeInfo, hi, hz]
theorem set53 (v : Value) : z53.setIfInBounds 64 v = ((List.replicate 64 0).map (fun x : Nat => Value.int .u64 x) ++ [v]).toArray := rfl

/-- The words with the first k bits. -/
theorem bit_zero (i : Nat) : bitF (List.replicate 64 0) i = false := by
  unfold bitF
  rw [List.getD_eq_getElem?_getD, List.getElem?_replicate]
  split <;> simp

theorem new_made (n : Nat) (h1 : 1 ≤ n) (h2 : n ≤ 4096) (w : World) :
    SlM ((w.alloc (.cells (madeCells #[.int .i64 0] n) 3)).alloc (.cells (z53.setIfInBounds 64 (.slice (some ⟨w.heap.size, 0, none⟩) n n)) 95)) (w.heap.size + 1) w.heap.size n n (List.replicate 64 0) (List.replicate n 0) := by
  refine ⟨?_, ⟨madeCells #[.int .i64 0] n, ?_, fun j v hv => ?_⟩, by omega, by simp, by simp, h1, h2, Nat.le_refl _, fun x hx => by simp at hx; omega, fun x hx => by simp at hx; omega⟩
  · have := heap_alloc_new (w.alloc (.cells (madeCells #[.int .i64 0] n) 3)) (.cells (z53.setIfInBounds 64 (.slice (some ⟨w.heap.size, 0, none⟩) n n)) 95)
    rw [World.size_alloc] at this
    rw [this, set53]
  · rw [Below.heap_alloc _ _ _ (by simp), heap_alloc_new]
  · rw [← Array.getElem?_toList, toList_madeCells_one]
    simpa using hv

set_option maxHeartbeats 2000000 in
theorem new_some (n : Nat) (h1 : 1 ≤ n) (h2 : n ≤ 4096) (w : World) :
    Calls Tryd.prog 29 #[.int .i64 n] w fun e w' => e = .returned (.pointer (some ⟨w.heap.size + 1, 0, none⟩)) ∧ SlQ w' (w.heap.size + 1) w.heap.size n (List.replicate n 0) (List.replicate n false) ∧ w.heap.size + 2 ≤ w'.heap.size ∧ Below w.heap.size w w' := by
  have hmk := mk_int n h2
  have hz := zero53
  have hs := size53
  have hM := new_made n h1 h2 w
  generalize z53 = zz at hz hs hM
  have hn1 : ¬ (n : Int) < 1 := by omega
  have hn2 : ¬ 4096 < (n : Int) := by omega
  go_enter Tryd.func29, Tryd.ntmps29
  go_wp2_with fail
  have hB : Below w.heap.size w ((w.alloc (.cells (madeCells #[.int .i64 0] n) 3)).alloc (.cells (zz.setIfInBounds 64 (.slice (some ⟨w.heap.size, 0, none⟩) n n)) 95)) := ((Below.refl _ w).alloc (Nat.le_refl _) _).alloc (by simp) _
  generalize ((w.alloc (.cells (madeCells #[.int .i64 0] n) 3)).alloc (.cells (zz.setIfInBounds 64 (.slice (some ⟨w.heap.size, 0, none⟩) n n)) 95)) = w0 at hM hB ⊢
  clear hmk hz hs
  go_loopw [16] (fun q wr => ∃ k : Nat, k ≤ n ∧ q = .int .i64 k ∧ (∃ fs, SlM wr (w.heap.size + 1) w.heap.size n n fs (List.replicate n 0) ∧ ∀ i, bitF fs i = decide (i < k)) ∧ Below w.heap.size w wr) (fun q _ => 4096 - (intOf q).toNat)
  case atStart => exact ⟨0, by omega, rfl, ⟨_, hM, fun i => by rw [bit_zero]; simp⟩, hB⟩
  case round =>
    clear hM hB
    obtain ⟨k, hk, rfl, ⟨fs, hM, hb⟩, hB⟩ := hrel
    by_cases hlt : k < n
    · have hU := turn_any hM k (by omega)
      have hb' : Hid (∀ i, bitF (fs.set (k / 64) (fs.getD (k / 64) 0 ^^^ 2 ^ (k % 64))) i = decide (i < k + 1)) := fun i => by
        rw [bitF_turn fs k i (by rw [hM.flen]; omega), hb k, hb i]
        by_cases h : i = k
        · subst h; simp
        · rw [if_neg h, decide_eq_decide]; omega
      generalize (fs.set (k / 64) (fs.getD (k / 64) 0 ^^^ 2 ^ (k % 64))) = fs' at hU hb'
      have h3 : (k : Int) < (n : Int) := by omega
      have hsz := hM.ltB
      clear hb hM
      go_wp2_with (go_at_call 57; refine hU.mono ?_; rintro e w1 ⟨rfl, hs, hbt⟩)
      go_roundw
      case rel => exact ⟨k + 1, by omega, by simp, ⟨fs', hs, hb'.out⟩, hB.trans (hbt.below hB.size (by simp))⟩
      case measure =>
        simp [intOf]
        omega
    · obtain rfl : k = n := by omega
      go_wp2_with fail
      go_ret
      refine ⟨rfl, ⟨_, _, hM, by simp, fun i => ?_⟩, ?_, hB⟩
      · rw [hb i, List.getElem?_replicate]
        by_cases h : i < k <;> simp [h]
      · have := hM.ltB
        omega

theorem tk1 : takeI [0, 0] [false, false] = 65536 ∧ takeE [0, 0] [false, false] = 0 ∧ takeA [0, 0] [false, false] = [1, 0] ∧ takeT [0, 0] [false, false] = [true, false] := by decide
theorem tk2 : takeI [1, 0] [true, false] = 65537 ∧ takeE [1, 0] [true, false] = 0 ∧ takeA [1, 0] [true, false] = [1, 1] ∧ takeT [1, 0] [true, false] = [true, true] := by decide
theorem tk3 : freeE [1, 1] [true, true] 65536 = 0 ∧ freeT [1, 1] [true, true] 65536 = [false, true] := by decide
theorem tk4 : takeI [1, 1] [false, true] = 131072 ∧ takeE [1, 1] [false, true] = 0 := by decide

section
variable {w : World} {B G : Nat}
theorem lv1 (h : SlQ w B G 2 (List.replicate 2 0) (List.replicate 2 false)) (hT : Tab w) : Calls Tryd.prog 44 #[.pointer (some ⟨B, 0, none⟩)] w fun e w' => e = .returned (.tuple #[.int .i64 65536, .int .i64 0]) ∧ SlQ w' B G 2 [1, 0] [true, false] ∧ But [B, G] w w' := by
  have := take_any h hT
  rw [show List.replicate 2 0 = [0, 0] from rfl, show List.replicate 2 false = [false, false] from rfl, tk1.1, tk1.2.1, tk1.2.2.1, tk1.2.2.2] at this
  exact this
theorem lv2 (h : SlQ w B G 2 [1, 0] [true, false]) (hT : Tab w) : Calls Tryd.prog 44 #[.pointer (some ⟨B, 0, none⟩)] w fun e w' => e = .returned (.tuple #[.int .i64 65537, .int .i64 0]) ∧ SlQ w' B G 2 [1, 1] [true, true] ∧ But [B, G] w w' := by
  have := take_any h hT
  rw [tk2.1, tk2.2.1, tk2.2.2.1, tk2.2.2.2] at this
  exact this
theorem lv3 (h : SlQ w B G 2 [1, 1] [true, true]) : Calls Tryd.prog 68 #[.pointer (some ⟨B, 0, none⟩), .int .i64 65536] w fun e w' => e = .returned (.int .i64 0) ∧ SlQ w' B G 2 [1, 1] [false, true] ∧ But [B] w w' := by
  have := free_any h 65536 (by decide) (by decide)
  rw [tk3.1, tk3.2] at this
  exact this
theorem lv4 (h : SlQ w B G 2 [1, 1] [false, true]) (hT : Tab w) : Calls Tryd.prog 44 #[.pointer (some ⟨B, 0, none⟩)] w fun e w' => e = .returned (.tuple #[.int .i64 131072, .int .i64 0]) ∧ But [B, G] w w' := by
  have := take_any h hT
  rw [tk4.1, tk4.2] at this
  exact this.mono fun e w' h => ⟨h.1, h.2.2⟩
end

end Go.Proofs.YtjgclehghnmhnaaDoor
