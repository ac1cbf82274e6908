/- Contract of All. -/
import Derived.Test.YtjgclehghnmhnaaDoorSApp
import Derived.Test.YtjgclehghnmhnaaDoorSShelf
import Derived.Sort.OwnSortedInts
namespace Go.Proofs.YtjgclehghnmhnaaDoor
open Go.RowKit

/-- The ids of those of the first k indexes that are taken. -/
def idsK (ag : List Nat) (tk : List Bool) (k : Nat) : List Int := ((List.range k).filter (fun i => tk[i]? == some true)).map (fun i : Nat => idI (i : Int) (ag.getD i 0 : Nat))
/-- All ids that are taken, rising. -/
def allL (ag : List Nat) (tk : List Bool) : List Int := (idsK ag tk tk.length).mergeSort (fun x y => decide (x ≤ y))

theorem idsK_succ (ag : List Nat) (tk : List Bool) (k a : Nat) (t : Bool) (ha : ag[k]? = some a) (ht : tk[k]? = some t) : idsK ag tk (k + 1) = if t = true then idsK ag tk k ++ [idI (k : Int) (a : Nat)] else idsK ag tk k := by
  unfold idsK
  rw [List.range_succ, List.filter_append, List.map_append]
  cases t <;> simp [ht, List.getD_eq_getElem?_getD, ha]
theorem idsK_le (ag : List Nat) (tk : List Bool) (k : Nat) : (idsK ag tk k).length ≤ k := by
  have := List.length_filter_le (fun i => tk[i]? == some true) (List.range k)
  simpa [idsK] using this
theorem allL_length (ag : List Nat) (tk : List Bool) : (allL ag tk).length = (idsK ag tk tk.length).length := by unfold allL; exact List.length_mergeSort _

section
variable {w w' : World} {B G n : Nat} {ag : List Nat} {tk : List Bool}

/-- The library's sort of a row of the call's own. -/
theorem sort_row {W : World} {base : Nat} {v : Value} {xs : List Int} (h : RowI W base v xs) (hb : base ≤ W.heap.size) (hx : xs.length ≤ 4096) :
    Calls Tryd.prog 65 #[v] W fun e w' => e = .returned (.tuple #[]) ∧ RowI w' base v (xs.mergeSort (fun x y => decide (x ≤ y))) ∧ Below base W w' := by
  rcases h.2 with ⟨rfl, h0⟩ | ⟨g, cap, cur, rfl, hg, hblk, hc, hm, hs, ht⟩
  · have e : xs = [] := List.length_eq_zero_iff.1 h0
    subst e
    refine (Tryd.slices_Sort_int_none none 0 W).mono ?_
    rintro e w' ⟨rfl, rfl⟩
    refine ⟨rfl, ?_, Below.refl _ _⟩
    simpa using h
  · have hlt := (Array.getElem?_eq_some_iff.1 hblk).1
    refine (Tryd.slices_Sort_int g 0 cap xs W (holds_of_blockI hblk (by simpa using ht)) hlt (by omega)).mono ?_
    rintro e w' ⟨rfl, m, os, rfl⟩
    have hl : (xs.mergeSort (fun x y => decide (x ≤ y))).length = xs.length := List.length_mergeSort _
    refine ⟨rfl, ?_, (Below.refl base W).grown (grownBy_sortedI _) hb (fun k e => by cases e; exact hg)⟩
    have := ownsRow_sortedI (n := m) (os := os) hl hg hblk hc hm hs
    unfold RowI
    rw [hl]
    exact this

set_option maxHeartbeats 4000000 in
theorem all_any (hsq : SlQ w B G n ag tk) :
    Calls Tryd.prog 41 #[.pointer (some ⟨B, 0, none⟩)] w fun e w' => ∃ v, e = .returned v ∧ RowI w' w.heap.size v (allL ag tk) ∧ Below w.heap.size w w' := by
  obtain ⟨c, fs, hm, hl, hb⟩ := hsq
  have hM := made_any hm
  have c64 := hm.c64
  have hn := hm.le
  have HT : Aside (∀ W k, k < n → But [] w W → Calls Tryd.prog 63 #[.pointer (some ⟨B, 0, none⟩), .int .i64 (k : Nat)] W fun e w' => e = .returned (.bool (!bitF fs k)) ∧ Drawn W w') := fun W k hk hB => taken_any (hm.but hB (by simp) (by simp)) k (by omega)
  have HA : Aside (∀ k, k < n → ∃ a t, ag[k]? = some a ∧ tk[k]? = some t ∧ (!bitF fs k) = t ∧ w.cell? ⟨G, k, none⟩ = some (.int .i64 (a : Nat))) := fun k hk => by
    obtain ⟨a, t, ha, ht⟩ := SlQ.at ⟨c, fs, hm, hl, hb⟩ hk
    refine ⟨a, t, ha, ht, ?_, hm.a ha⟩
    rw [hb k, ht]
    cases t <;> rfl
  have HE : Hid (allL ag tk = (idsK ag tk n).mergeSort (fun x y => decide (x ≤ y))) := by show allL ag tk = _; unfold allL; rw [hl]
  clear hl hb hm
  go_enter Tryd.func41, Tryd.ntmps41
  go_wp2_with (go_at_call 62; refine hM.mono ?_; rintro e w' ⟨rfl, hw⟩; subst w')
  go_loopw [3, 14] (fun p q wr => ∃ k : Nat, k ≤ n ∧ q = .int .i64 k ∧ RowI wr w.heap.size p (idsK ag tk k) ∧ But [] w wr) (fun _ q _ => 4096 - (intOf q).toNat)
  case atStart => exact ⟨0, by omega, rfl, World.ownsRow_nil w w.heap.size 3 1, But.refl _ _⟩
  case round =>
    obtain ⟨k, hk, rfl, hr, hB⟩ := hrel
    by_cases hlt : k < n
    · have hlt' : (k : Int) < (n : Int) := by omega
      have hk0 : (0 : Int) ≤ (k : Int) := by omega
      obtain ⟨a, t, ha, ht, hbt, hc⟩ := HA.out k hlt
      have hT := HT.out wr k hlt hB
      rw [hbt] at hT
      have hc' := hB.cell hc
      have hI := fun W => id_any (k : Int) (a : Nat) W
      have hle := idsK_le ag tk k
      have hs := idsK_succ ag tk k a t ha ht
      cases t
      · have hs' : Hid (idsK ag tk (k + 1) = idsK ag tk k) := hs.trans (if_neg (by simp))
        clear hs ha ht hbt hc
        go_wp2_with (go_at_call 63; refine hT.mono ?_; rintro e w1 ⟨rfl, hd⟩)
        go_roundw
        case rel => exact ⟨k + 1, by omega, by simp, by rw [hs'.out]; exact hr.but (S := []) hd.but (by simp), hB.trans hd.but⟩
        case measure =>
          simp [intOf]
          omega
      · have hs' : Hid (idsK ag tk (k + 1) = idsK ag tk k ++ [idI (k : Int) (a : Nat)]) := hs.trans (if_pos rfl)
        clear hs ha ht hbt hc
        generalize idI (k : Int) (a : Nat) = id at hI hs'
        obtain ⟨va, vc, rfl⟩ := own_shape hr
        go_wp2_with (first
          | (go_at_call 63; refine hT.mono ?_; rintro e w1 ⟨rfl, hd⟩; have hr1 := hr.but (S := []) hd.but (by simp); have hB1 := hB.trans hd.but; have hc1 := hd.but (S := []) |>.cell hc'; clear hr hB hd hc')
          | (go_at_call 64; refine (hI _).mono ?_; rintro e w' ⟨rfl, hw⟩; subst w')
          | (at_builtin; refine wpList_app rfl _ _ rfl w.heap.size _ _ _ rfl (hr1.alloc _) _ _ _ [id] rfl rfl (reads_one _ _) (by omega) (by have := hB1.size; simp; omega) ?_; intro v3 w3 ho3 hg3; have hb3 : But [] w w3 := (hB1.alloc _).grown hg3 (fun k e => (hr1.lt k e).1); clear hg3))
        go_roundw
        case rel => exact ⟨k + 1, by omega, by simp, by rw [hs'.out]; unfold RowI; rw [List.length_append]; exact ho3, hb3⟩
        case measure =>
          simp [intOf]
          omega
    · obtain rfl : k = n := by omega
      have hS := sort_row hr hB.size (by have := idsK_le ag tk k; omega)
      rw [← HE.out] at hS
      go_wp2_with (go_at_call 65; refine hS.mono ?_; rintro e w1 ⟨rfl, hr1, hb1⟩)
      go_ret
      exact ⟨_, rfl, hr1, (hB.below (Nat.le_refl _) (by simp)).trans hb1⟩
end
end Go.Proofs.YtjgclehghnmhnaaDoor
