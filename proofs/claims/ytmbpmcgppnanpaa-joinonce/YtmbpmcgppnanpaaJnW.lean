/- The document's at, Where. -/
import Derived.Test.YtmbpmcgppnanpaaJnR
namespace Go.Proofs.Ytmbpmcgppnanpaa.Jn
open Go Go.RowKit Go.Proofs.Ytmbpmcgppnanpaa.Bs
open Go.Proofs.Ytmbpmcgppnanpaa.Ids (right indexI ageI idI rindex_any)
set_option linter.unusedSimpArgs false

theorem Ok.qlen {σ : St} {n : Nat} (h : Ok n σ) {o : Nat} (ho : o < n) : (rw σ o).q.length ≤ 1024 := by
  have h1 : ((rw σ o).q.map (fun x => (indexI x).toNat)).Nodup := by
    have := h.nd o ho
    rw [show (rw σ o).q.map (fun x => (indexI x).toNat) = ((rw σ o).q.map indexI).map Int.toNat by rw [List.map_map]; rfl]
    unfold List.Nodup at this ⊢
    rw [List.pairwise_map]
    refine this.imp_of_mem (fun {a b} ha hb hab e => hab ?_)
    obtain ⟨x, hx, rfl⟩ := List.mem_map.1 ha
    obtain ⟨y, hy, rfl⟩ := List.mem_map.1 hb
    have := (h.wh o ho x hx).1
    have := (h.wh o ho y hy).1
    omega
  have := List.Nodup.length_le_of_subset h1 (l₂ := List.range n) (fun x hx => by
    obtain ⟨y, hy, rfl⟩ := List.mem_map.1 hx
    have := h.wh o ho y hy
    exact List.mem_range.2 (by omega))
  rw [List.length_map, List.length_range] at this
  have := h.n2
  omega
theorem findIdx?_at {α : Type} {l : List α} {f : α → Bool} {i : Nat} {x : α} (hx : l[i]? = some x) (hf : f x = true) (hno : ∀ j y, j < i → l[j]? = some y → f y = false) : l.findIdx? f = some i := by
  obtain ⟨hi, rfl⟩ := List.getElem?_eq_some_iff.1 hx
  rw [List.findIdx?_eq_some_iff_getElem]
  exact ⟨hi, hf, fun j hj => by rw [hno j _ hj (List.getElem?_eq_getElem (by omega))]; simp⟩
section
variable {σ : St} {n : Nat}
theorem Ok.inR_at (h : Ok n σ) {j : Nat} (hj : j < n) {t : Int} (hm : t ∈ (rw σ j).q) (hno : ∀ i, i < j → t ∉ (rw σ i).q) : Jn.inR σ t = some j :=
  findIdx?_at (h.at hj) (by simpa [hasI] using hm) (fun i y hi hy => by
    rw [h.at (by omega)] at hy
    cases hy
    simpa [hasI] using hno i hi)
theorem Ok.inR_none (h : Ok n σ) {t : Int} (hno : ∀ i, i < n → t ∉ (rw σ i).q) : Jn.inR σ t = none := by
  refine List.findIdx?_eq_none_iff.2 fun x hx => ?_
  obtain ⟨i, hi⟩ := List.getElem?_of_mem hx
  have hlt := (List.getElem?_eq_some_iff.1 hi).1
  rw [h.len] at hlt
  rw [h.at hlt] at hi
  cases hi
  simpa [hasI] using hno i hlt
theorem Ok.atP_at (h : Ok n σ) {j : Nat} (hj : j < n) {p : Int} (hm : p ∈ (rw σ j).q.map indexI) (hno : ∀ i, i < j → p ∉ (rw σ i).q.map indexI) : atP σ p = j := by
  have : σ.findIdx? (hasP p) = some j := findIdx?_at (h.at hj) (decide_eq_true hm) (fun i y hi hy => by
    rw [h.at (by omega)] at hy
    cases hy
    exact decide_eq_false (hno i hi))
  unfold atP
  rw [this]
theorem Ok.atP_none (h : Ok n σ) {p : Int} (hno : ∀ i, i < n → p ∉ (rw σ i).q.map indexI) : atP σ p = -1 := by
  have : σ.findIdx? (hasP p) = none := List.findIdx?_eq_none_iff.2 fun x hx => by
    obtain ⟨i, hi⟩ := List.getElem?_of_mem hx
    have hlt := (List.getElem?_eq_some_iff.1 hi).1
    rw [h.len] at hlt
    rw [h.at hlt] at hi
    cases hi
    exact decide_eq_false (hno i hlt)
  unfold atP
  rw [this]
theorem index_small {x : Int} (h : 0 ≤ indexI x) : x ≤ 9223372036854775807 := by
  have := right_of h
  have := this.2
  omega
end
section
set_option maxRecDepth 100000
variable {w w' : World} {M G n : Nat} {R : List Nat} {vs : Nat → Value} {σ : St}
set_option maxHeartbeats 2000000 in
theorem at_any (h : RM w M G R n vs σ) (ho : Ok n σ) (p : Int) : Calls Try.prog 50 #[.pointer (some ⟨M, 0, none⟩), .int .i64 p] w fun e w' => e = .returned (.int .i64 (atP σ p)) ∧ Below w.heap.size w w' := by
  obtain ⟨c, c0⟩ := h.c0
  have hn := ho.n2
  have HM : ∀ wr, Below w.heap.size w wr → RM wr M G R n vs σ := fun wr hb => h.below hb
  go_enter Try.func50, Try.ntmps50
  go_wp2_with fail
  go_loopw [14, 5, 6, 8] (fun v _ _ _ wr => ∃ j : Nat, j ≤ n ∧ v = .int .i64 j ∧ Below w.heap.size w wr ∧ ∀ i, i < j → p ∉ (rw σ i).q.map indexI) (fun v _ _ _ _ => 1024 - (intOf v).toNat)
  case atStart => exact ⟨0, Nat.zero_le _, rfl, Below.refl _ _, fun i hi => by omega⟩
  case round =>
    obtain ⟨j, hj, rfl, hbw, hB⟩ := hrel
    by_cases hlt : j < n
    · have hlt' : (j : Int) < (n : Int) := by omega
      have hm := HM _ hbw
      have r0 := hm.r0 hlt
      have r1 := hm.r1 hlt
      have r2 := hm.r2 hlt
      have r3 := hm.r3 hlt
      obtain ⟨a, cW, e4, hc⟩ := (hm.rw j hlt).rd
      rw [e4] at r3
      have hlen := ho.qlen hlt
      have HS : ∀ x ∈ (rw σ j).q, x ≤ 9223372036854775807 := fun x hx => index_small (ho.wh j hlt x hx).1
      have HI : p ∈ (rw σ j).q.map indexI → atP σ p = j := fun hm => ho.atP_at hlt hm hB
      replace HI := Hid.mk HI
      clear HM h hm c0 e4
      generalize hxs : (rw σ j).q = xs at *
      replace hxs := Hid.mk hxs
      generalize (rw σ j).id = ri at *
      generalize (rw σ j).en = re at *
      generalize (rw σ j).va = rv at *
      have hbp : Below w.heap.size w (wr.alloc (.cells #[.int .i64 ri, .bool re, .int .i64 rv, .slice a xs.length cW] 74)) := hbw.alloc hbw.size _
      have hb1 : Below wr.heap.size wr (wr.alloc (.cells #[.int .i64 ri, .bool re, .int .i64 rv, .slice a xs.length cW] 74)) := (Below.refl _ _).alloc (Nat.le_refl _) _
      replace hc : ∀ j x, xs[j]? = some x → ∃ g, a = some ⟨g, 0, none⟩ ∧ (wr.alloc (.cells #[.int .i64 ri, .bool re, .int .i64 rv, .slice a xs.length cW] 74)).cell? ⟨g, j, none⟩ = some (.int .i64 x) := fun j x hx => by
        obtain ⟨g, e1, e2⟩ := hc j x hx
        exact ⟨g, e1, cell_on hb1 e2⟩
      clear hb1
      go_wp2_with fail
      generalize wr.alloc _ = wp at *
      go_loopw [22, 8] (fun v _ wx => ∃ i : Nat, i ≤ xs.length ∧ v = .int .i64 i ∧ wx = wp ∧ ∀ k x, k < i → xs[k]? = some x → indexI x ≠ p) (fun v _ _ => 1024 - (intOf v).toNat)
      case atStart => exact ⟨0, Nat.zero_le _, rfl, rfl, fun i x hi => by omega⟩
      case round =>
        obtain ⟨i, hi, rfl, rfl, hI⟩ := hrel
        by_cases hx0 : i < xs.length
        · have hx := List.getElem?_eq_getElem hx0
          obtain ⟨g, rfl, x0⟩ := hc i _ hx
          have hx0' : (i : Int) < (xs.length : Int) := by omega
          have C := fun W => rindex_any xs[i] (HS _ (List.getElem_mem hx0)) W
          by_cases e : indexI xs[i] = p
          · have hm : p ∈ xs.map indexI := e ▸ List.mem_map.2 ⟨_, List.getElem_mem hx0, rfl⟩
            have hR : Hid (atP σ p = j) := HI.out hm
            rw [e] at C
            generalize xs[i] = x at *
            clear hm hI hB hc HS HI e hxs
            go_wp2_with (first | (go_at_call 60; (with_reducible refine (C _).mono ?_); rintro e w1 ⟨rfl, hw⟩; subst w1))
            go_ret
            exact ⟨by rw [hR.out]; rfl, hbp⟩
          · have hI' : ∀ k x, k < i + 1 → xs[k]? = some x → indexI x ≠ p := fun k x hk hkx => by
              by_cases h1 : k = i
              · subst h1
                rw [hx] at hkx
                cases hkx
                exact e
              · exact hI k x (by omega) hkx
            have hne : (indexI xs[i] == p) = false := by simpa using e
            generalize xs[i] = x at *
            generalize indexI x = y at *
            clear hI hB hc hx e HS HI hxs
            go_wp2_with (first | (go_at_call 60; (with_reducible refine (C _).mono ?_); rintro e w1 ⟨rfl, hw⟩; subst w1))
            go_roundw
            case rel => exact ⟨i + 1, by omega, by simp, by trivial, hI'⟩
            case measure =>
              simp [intOf]
              omega
        · obtain rfl : i = xs.length := by omega
          have hB' : ∀ k, k < j + 1 → p ∉ (rw σ k).q.map indexI := fun k hk => by
            by_cases h1 : k = j
            · subst h1
              rw [hxs.out]
              intro hm
              obtain ⟨x, hx, e⟩ := List.mem_map.1 hm
              obtain ⟨q, hq⟩ := List.getElem?_of_mem hx
              exact hI q x (List.getElem?_eq_some_iff.1 hq).1 hq e
            · exact hB k (by omega)
          clear hB hI hc HS HI hxs
          go_wp2_with fail
          go_roundw
          case rel => exact ⟨j + 1, by omega, by simp, hbp, hB'⟩
          case measure =>
            simp [intOf]
            omega
    · obtain rfl : j = n := by omega
      have K1 : Hid (atP σ p = -1) := ho.atP_none hB
      clear hB
      go_wp2_with fail
      go_ret
      exact ⟨by rw [K1.out]; rfl, hbw⟩
set_option maxHeartbeats 2000000 in
theorem where_any (h : RM w M G R n vs σ) (ho : Ok n σ) (t : Int) : Calls Try.prog 28 #[.pointer (some ⟨M, 0, none⟩), .int .i64 t] w fun e w' => e = .returned (.int .i64 (whI σ t)) ∧ Below w.heap.size w w' := by
  obtain ⟨c, c0⟩ := h.c0
  have hn := ho.n2
  have HM : ∀ wr, Below w.heap.size w wr → RM wr M G R n vs σ := fun wr hb => h.below hb
  go_enter Try.func28, Try.ntmps28
  go_wp2_with fail
  go_loopw [14, 6, 8] (fun v _ _ wr => ∃ j : Nat, j ≤ n ∧ v = .int .i64 j ∧ Below w.heap.size w wr ∧ ∀ i, i < j → t ∉ (rw σ i).q) (fun v _ _ _ => 1024 - (intOf v).toNat)
  case atStart => exact ⟨0, Nat.zero_le _, rfl, Below.refl _ _, fun i hi => by omega⟩
  case round =>
    obtain ⟨j, hj, rfl, hbw, hB⟩ := hrel
    by_cases hlt : j < n
    · have hlt' : (j : Int) < (n : Int) := by omega
      have hm := HM _ hbw
      have r0 := hm.r0 hlt
      have r1 := hm.r1 hlt
      have r2 := hm.r2 hlt
      have r3 := hm.r3 hlt
      obtain ⟨a, cW, e4, hc⟩ := (hm.rw j hlt).rd
      rw [e4] at r3
      have hlen := ho.qlen hlt
      have HI : t ∈ (rw σ j).q → whI σ t = (rw σ j).id := fun hm => by
        unfold whI
        rw [ho.inR_at hlt hm hB]
      replace HI := Hid.mk HI
      clear HM h hm c0 e4
      generalize hxs : (rw σ j).q = xs at *
      replace hxs := Hid.mk hxs
      generalize (rw σ j).id = ri at *
      generalize (rw σ j).en = re at *
      generalize (rw σ j).va = rv at *
      have hbp : Below w.heap.size w (wr.alloc (.cells #[.int .i64 ri, .bool re, .int .i64 rv, .slice a xs.length cW] 74)) := hbw.alloc hbw.size _
      have hb1 : Below wr.heap.size wr (wr.alloc (.cells #[.int .i64 ri, .bool re, .int .i64 rv, .slice a xs.length cW] 74)) := (Below.refl _ _).alloc (Nat.le_refl _) _
      replace hc : ∀ j x, xs[j]? = some x → ∃ g, a = some ⟨g, 0, none⟩ ∧ (wr.alloc (.cells #[.int .i64 ri, .bool re, .int .i64 rv, .slice a xs.length cW] 74)).cell? ⟨g, j, none⟩ = some (.int .i64 x) := fun j x hx => by
        obtain ⟨g, e1, e2⟩ := hc j x hx
        exact ⟨g, e1, cell_on hb1 e2⟩
      have b0 : (wr.alloc (.cells #[.int .i64 ri, .bool re, .int .i64 rv, .slice a xs.length cW] 74)).cell? ⟨wr.heap.size, 0, none⟩ = some (.int .i64 ri) := by simp [go_sem]
      clear hb1
      go_wp2_with fail
      generalize wr.alloc _ = wp at *
      go_loopw [21, 8] (fun v _ wx => ∃ i : Nat, i ≤ xs.length ∧ v = .int .i64 i ∧ wx = wp ∧ ∀ k x, k < i → xs[k]? = some x → x ≠ t) (fun v _ _ => 1024 - (intOf v).toNat)
      case atStart => exact ⟨0, Nat.zero_le _, rfl, rfl, fun i x hi => by omega⟩
      case round =>
        obtain ⟨i, hi, rfl, rfl, hI⟩ := hrel
        by_cases hx0 : i < xs.length
        · have hx := List.getElem?_eq_getElem hx0
          obtain ⟨g, rfl, x0⟩ := hc i _ hx
          have hx0' : (i : Int) < (xs.length : Int) := by omega
          by_cases e : xs[i] = t
          · have hm : t ∈ xs := e ▸ List.getElem_mem hx0
            have hR : Hid (whI σ t = ri) := HI.out hm
            rw [e] at x0
            clear hm hI hB hc HI e hxs
            go_wp2_with fail
            go_ret
            exact ⟨by rw [hR.out]; rfl, hbp⟩
          · have hI' : ∀ k x, k < i + 1 → xs[k]? = some x → x ≠ t := fun k x hk hkx => by
              by_cases h1 : k = i
              · subst h1
                rw [hx] at hkx
                cases hkx
                exact e
              · exact hI k x (by omega) hkx
            have hne : (xs[i] == t) = false := by simpa using e
            generalize xs[i] = x at *
            clear hI hB hc hx e HI hxs
            go_wp2_with fail
            go_roundw
            case rel => exact ⟨i + 1, by omega, by simp, by trivial, hI'⟩
            case measure =>
              simp [intOf]
              omega
        · obtain rfl : i = xs.length := by omega
          have hB' : ∀ k, k < j + 1 → t ∉ (rw σ k).q := fun k hk => by
            by_cases h1 : k = j
            · subst h1
              rw [hxs.out]
              intro hm
              obtain ⟨q, hq⟩ := List.getElem?_of_mem hm
              exact hI q t (List.getElem?_eq_some_iff.1 hq).1 hq rfl
            · exact hB k (by omega)
          clear hB hI hc HI hxs
          go_wp2_with fail
          go_roundw
          case rel => exact ⟨j + 1, by omega, by simp, hbp, hB'⟩
          case measure =>
            simp [intOf]
            omega
    · obtain rfl : j = n := by omega
      have K1 : Hid (whI σ t = 0) := by
        show whI σ t = 0
        unfold whI
        rw [ho.inR_none hB]
      clear hB
      go_wp2_with fail
      go_ret
      exact ⟨by rw [K1.out]; rfl, hbw⟩
end
end Go.Proofs.Ytmbpmcgppnanpaa.Jn
