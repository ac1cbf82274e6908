/- Contract of Sound. -/
import Derived.Test.YtlnfabjgcecebaaGreatJ9
namespace Go.Proofs.YtlnfabjgcecebaaGreat.Hp
open Go.RowKit

/-- How many of the ids below j have a place. -/
def cnt (pl : List Int) (j : Nat) : Nat := ((List.range j).filter (fun id => !(pl[id]? == some (-1)))).length
theorem cnt_no {pl : List Int} {j : Nat} (h : pl[j]? = some (-1)) : cnt pl (j + 1) = cnt pl j := by
  unfold cnt
  rw [List.range_succ, List.filter_append, List.filter_cons_of_neg (by simp [h])]
  simp
theorem cnt_yes {pl : List Int} {j : Nat} {i : Nat} (h : pl[j]? = some (i : Int)) : cnt pl (j + 1) = cnt pl j + 1 := by
  unfold cnt
  have e : (!(pl[j]? == some (-1))) = true := by
    rw [h]
    simp
  rw [List.range_succ, List.filter_append, List.filter_cons_of_pos (by exact e)]
  simp
theorem cnt_le (pl : List Int) (j : Nat) : cnt pl j ≤ j := by
  unfold cnt
  have := List.length_filter_le (fun id => !(pl[id]? == some (-1))) (List.range j)
  simpa using this
theorem Pls.cnt {N : Nat} {xs : List Th} {pl : List Int} (h : Pls N xs pl) : cnt pl N = xs.length := by
  have n1 := h.nodup
  have n2 : ((List.range N).filter (fun id => !(pl[id]? == some (-1)))).Nodup := List.nodup_range.sublist List.filter_sublist
  have s1 : ∀ x ∈ xs.map (·.1), x ∈ (List.range N).filter (fun id => !(pl[id]? == some (-1))) := fun x hx => by
    obtain ⟨p, hp, rfl⟩ := List.mem_map.1 hx
    obtain ⟨i, hi⟩ := List.getElem?_of_mem hp
    rw [List.mem_filter]
    refine ⟨List.mem_range.2 (h.lt hi), ?_⟩
    rw [h.at' i p hi]
    simp
  have s2 : ∀ x ∈ (List.range N).filter (fun id => !(pl[id]? == some (-1))), x ∈ xs.map (·.1) := fun x hx => by
    rw [List.mem_filter] at hx
    have hlt := List.mem_range.1 hx.1
    have e : pl[x]? = some (pl[x]'(by rw [h.len]; exact hlt)) := List.getElem?_eq_getElem _
    rcases h.no x _ e with e1 | ⟨i, k, _, hi⟩
    · rw [e, e1] at hx
      simp at hx
    · exact List.mem_map.2 ⟨(x, k), List.mem_of_getElem? hi, rfl⟩
  have l1 := List.Nodup.length_le_of_subset n1 s1
  have l2 := List.Nodup.length_le_of_subset n2 s2
  rw [List.length_map] at l1 l2
  unfold Go.Proofs.YtlnfabjgcecebaaGreat.Hp.cnt
  omega

section
variable {w : World} {B N : Nat} {T : List Nat} {q : List Th}

set_option maxHeartbeats 2000000 in
set_option maxRecDepth 100000 in
theorem sound_any (h : HQ w B T N q) :
    Calls Tryz.prog 65 #[.pointer (some ⟨B, 0, none⟩)] w fun e w' => e = .returned (.bool true) ∧ Below w.heap.size w w' := by
  obtain ⟨G, k, v, xs, pl, rfl, hm, hR⟩ := h
  have hM := made_any hm
  have hxl : xs.length ≤ 4096 := Nat.le_trans hR.pls.short hm.n2
  have hN := hm.n2
  obtain ⟨va, vc, rfl, hvs, -⟩ := hm.sl
  have c0 := hm.c0
  have c1 := hm.c1
  go_enter Tryz.func65, Tryz.ntmps65
  go_wp2_with (first
    | (go_at_call 61; refine hM.mono ?_; rintro e w' ⟨rfl, hw⟩; subst w'))
  go_loopw [14, 3, 4, 5] (fun v f _ _ wr => ∃ j : Nat, j ≤ N ∧ v = .int .i64 j ∧ f = .int .i64 (cnt pl j : Nat) ∧ But [] w wr) (fun v _ _ _ _ => 4096 - (intOf v).toNat)
  case atStart => exact ⟨0, by omega, rfl, rfl, But.refl _ _⟩
  case round =>
    clear c0 c1 hM
    obtain ⟨j, hj, rfl, rfl, hB⟩ := hrel
    have hmr := hm.keep hB
    have c0 := hmr.c0
    by_cases hlt : j < N
    · have hlt' : (j : Int) < (N : Int) := by omega
      have e : pl[j]? = some (pl[j]'(by rw [hR.pls.len]; exact hlt)) := List.getElem?_eq_getElem _
      have cx := hmr.x e
      have hcl := cnt_le pl j
      rcases hR.pls.no j _ e with e1 | ⟨i, ky, e1, hi⟩
      · rw [e1] at cx e
        have hc := cnt_no e
        have Hc : Hid (cnt pl (j + 1) = cnt pl j) := hc
        clear hc e e1
        go_wp2_with fail
        go_roundw
        case rel => exact ⟨j + 1, by omega, by simp, by rw [Hc.out], hB⟩
        case measure =>
          simp [intOf]
          omega
      · rw [e1] at cx e
        have hc := cnt_yes e
        have Hc : Hid (cnt pl (j + 1) = cnt pl j + 1) := hc
        have hil := (List.getElem?_eq_some_iff.1 hi).1
        obtain ⟨H, rfl, -⟩ := hvs (by omega)
        have t0 := hmr.t0 hi
        have hil' : (i : Int) < (xs.length : Int) := by omega
        have hne : ((i : Int) == -1) = false := by simp
        have c60 := cells60
        clear hc e e1
        by_cases h0 : 0 < i
        · have hp := par_lt h0
          have HO := over_any i h0 (by omega)
          have HA := ahead_any hmr hi (gx_get (xs := xs) (i := par i) (by omega))
          have hf := hR.hp i h0 hil
          rw [gx_of hi] at hf
          unfold le at hf
          rw [hf] at HA
          have h0' : (0 : Int) < (i : Int) := by omega
          clear hf
          generalize par i = s at *
          generalize cnt pl j = f at *
          go_wp2_with (first
            | (go_at_call 87; refine (HO _).mono ?_; rintro e w' ⟨rfl, hw⟩; subst w')
            | (go_at_call 86; refine HA.mono ?_; rintro e w2 ⟨rfl, b2⟩))
          go_roundw
          case rel => exact ⟨j + 1, by omega, by simp, by rw [Hc.out]; simp, hB.trans (.of_below b2)⟩
          case measure =>
            simp [intOf]
            omega
        · have h0' : ¬ (0 : Int) < (i : Int) := by omega
          generalize cnt pl j = f at *
          go_wp2_with fail
          go_roundw
          case rel => exact ⟨j + 1, by omega, by simp, by rw [Hc.out]; simp, hB⟩
          case measure =>
            simp [intOf]
            omega
    · obtain rfl : j = N := by omega
      rw [hR.pls.cnt]
      go_wp2_with fail
      go_ret
      exact ⟨rfl, hB.to_below⟩
end

end Go.Proofs.YtlnfabjgcecebaaGreat.Hp
