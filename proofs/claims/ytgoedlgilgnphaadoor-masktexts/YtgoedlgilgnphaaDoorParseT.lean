/- A set comes back from its text. -/
import Derived.Test.YtgoedlgilgnphaaDoorParse
namespace Go.Proofs.YtgoedlgilgnphaaDoor
open Go.RowKit Go.Shelf

theorem runsS_ne {m : Nat} (hm : m < 18446744073709551616) (h0 : m ≠ 0) : runsS m ≠ [] := by
  intro hr
  have h1 : starts m = [] := by rw [← firsts_runsS, hr]; rfl
  have h2 := first_start hm
  rw [h1] at h2
  have h3 : mem m ≠ [] := fun e => h0 ((mem_eq_nil hm).1 e)
  obtain ⟨x, _, ex⟩ := headI_mem h3
  change headI (mem m) = -1 at h2
  omega

theorem split_text {m : Nat} (hm : m < 18446744073709551616) (h0 : m ≠ 0) : splitL (textL m) = partsL (runsS m) := by
  unfold textL
  rw [if_neg h0]
  have hne := runsS_ne hm h0
  cases hr : runsS m with
  | nil => exact absurd hr hne
  | cons p l =>
    show splitL (Lib.join (partL p.1.1 p.1.2 :: partsL l) [44]) = partL p.1.1 p.1.2 :: partsL l
    apply splitL_join
    intro q hq
    have : q ∈ partsL (p :: l) := hq
    obtain ⟨r, _, rfl⟩ := List.mem_map.1 this
    exact partL_44 r.2.1 r.2.2

theorem okAll_parts (l : List R64) : okAll (partsL l) := by
  intro q hq
  obtain ⟨r, _, rfl⟩ := List.mem_map.1 hq
  rw [partV_partL r.2.1 r.2.2]

theorem accL_parts (l : List R64) : accL (partsL l) = orRuns l := by
  unfold accL orRuns partsL
  rw [List.foldl_map]
  congr 1
  funext x p
  rw [partV_partL p.2.1 p.2.2]

theorem dash_bad : (partV [45]).2 = false := by decide

theorem text_ne {m : Nat} (hm : m < 18446744073709551616) (h0 : m ≠ 0) : textL m ≠ [45] := by
  intro h
  have h1 := split_text hm h0
  have h2 : okAll (splitL (textL m)) := by rw [h1]; exact okAll_parts _
  rw [h] at h2
  have := h2 [45] (by simp [splitL])
  rw [dash_bad] at this
  cases this

theorem textL_len (m : Nat) : (textL m).length ≤ 400 := by
  unfold textL
  split
  · simp
  · have := join_small (runsS m)
    have := runsS_length m
    omega

theorem parse_text (m : Nat) (hm : m < 18446744073709551616) (w : World) (hT : Tab w) (hE : Errs w) :
    Calls Tryd.prog 33 #[.string ⟨(textL m).toArray⟩] w fun e w' => e = .returned (.tuple #[.int .u64 (m : Nat), .bool true]) ∧ Below w.heap.size w w' := by
  by_cases h0 : m = 0
  · subst h0
    have e0 : textL 0 = [45] := by unfold textL; rw [if_pos rfl]
    rw [e0]
    go_enter Tryd.func33, Tryd.ntmps33
    go_wp2_with fail
    have q0 := ((Boxed.new w 23 (.int .u64 0)).alloc (.cells #[.bool true] 4)).cell
    have q1 := (Boxed.new (w.alloc (.cells #[.int .u64 0] 23)) 4 (.bool true)).cell
    rw [World.size_alloc] at q1
    refine bodyPost_ret (v := .tuple #[.int .u64 0, .bool true]) ?_ rfl ⟨rfl, ((Below.refl _ w).alloc (Nat.le_refl _) _).alloc (by simp) _⟩
    simp [results, Tryd.f33, go_sem, q0, q1]
  · refine (parse_any _ (textL_len m) (text_ne hm h0) w hT hE).mono ?_
    rintro e w' ⟨⟨p, hp, rfl⟩, hb⟩
    unfold parseV at hp
    rw [split_text hm h0, accL_parts, orRuns_runs hm] at hp
    rcases hp with ⟨_, _, rfl⟩ | ⟨h, _⟩
    · exact ⟨rfl, hb⟩
    · exact absurd ⟨okAll_parts _, rfl⟩ h

end Go.Proofs.YtgoedlgilgnphaaDoor
