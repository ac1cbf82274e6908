/- Contract of now: a list's things, in a row of their own. -/
import Derived.Test.YtmbpmcgppnanpaaLkNew
namespace Go.Proofs.Ytmbpmcgppnanpaa.Lk
open Go.RowKit Go.Proofs.Ytmbpmcgppnanpaa.Bs

/-- What now tells of a list with these things. -/
def NowR (W : World) (base : Nat) (v : Value) (q : List Nat) : Prop := (q = [] ∧ v = .slice none 0 0) ∨ ∃ T, base ≤ T ∧ v = .slice (some ⟨T, 0, none⟩) q.length q.length ∧ Row W T 3 (q.map iv)

/-- A row on the way: behind j things. -/
def at0 (q : List Nat) (j : Nat) : List Nat := (List.range q.length).map (fun x => if x < j then q.getD x 0 else 0)
theorem at0_set (q : List Nat) (j : Nat) : (at0 q j).set j (q.getD j 0) = at0 q (j + 1) := set_range (fun x hx => by
  by_cases h : x < j
  · rw [if_pos h, if_pos (by omega)]
  · rw [if_neg h, if_neg (by omega)]) (by rw [if_pos (by omega)])
theorem at0_zero (q : List Nat) : (at0 q 0).map iv = List.replicate q.length (.int .i64 0) := by
  apply List.ext_getElem?
  intro k
  by_cases hk : k < q.length
  · rw [List.getElem?_replicate_of_lt hk]
    simp [at0, hk, iv]
  · rw [List.getElem?_eq_none (by simp [at0]; omega), List.getElem?_eq_none (by simp; omega)]
theorem at0_end (q : List Nat) : at0 q q.length = q := by
  apply List.ext_getElem?
  intro k
  by_cases hk : k < q.length
  · simp [at0, hk, List.getD_eq_getElem?_getD]
  · rw [List.getElem?_eq_none (by simp [at0]; omega), List.getElem?_eq_none (by omega)]

section
variable {w : World} {P : Pl} {N L : Nat} {ls : List (List Nat)}

set_option maxHeartbeats 2000000 in
theorem now_any (h : LQ w P N L ls) (i : Int) :
    Calls Try.prog 59 #[.pointer (some ⟨P.B, 0, none⟩), .int .i64 i] w fun e w' => ∃ v, e = .returned v ∧ NowR w' w.heap.size v (lsI ls i) ∧ But [] w w' := by
  have HL : ∀ W, LQ W P N L ls → Calls Try.prog 64 #[.pointer (some ⟨P.B, 0, none⟩), .int .i64 i] W fun e w' => e = .returned (.int .i64 (lsI ls i).length) ∧ w' = W := fun W h => len_any h i
  have ho := h.ok
  by_cases hq : lsI ls i = []
  · rw [hq] at HL ⊢
    go_enter Try.func59, Try.ntmps59
    go_wp2_with (first
      | (go_at_call 64; refine (HL _ h).mono ?_; rintro e w' ⟨rfl, hw⟩; subst w'))
    go_ret
    exact ⟨_, rfl, .inl ⟨rfl, rfl⟩, But.refl _ _⟩
  · have hi : inN L i = true := by
      cases hi : inN L i with
      | true => rfl
      | false => exact absurd (lsI_out ho hi) hq
    obtain ⟨k, rfl, hk⟩ := inN_out hi
    have hg := ho.at hk
    have hle := ho.short hg
    have hN := h.sizes
    have HE : ∀ W, LQ W P N L ls → Calls Try.prog 49 #[.pointer (some ⟨P.B, 0, none⟩), .int .i64 k] W fun e w' => e = .returned (.int .i64 ((N + k : Nat) : Int)) ∧ w' = W := fun W ⟨nx, pv, hm, hR⟩ => end_any hm k (by have := hm.l2; omega)
    have HX : ∀ W, LQ W P N L ls → ∀ j, j < (lsI ls (k : Int)).length → W.cell? ⟨P.n, ((N + k) :: lsI ls (k : Int)).getD j 0, none⟩ = some (.int .i64 ((lsI ls (k : Int)).getD j 0 : Nat)) ∧ W.cell? ⟨P.B, 0, none⟩ = some (.slice (some ⟨P.n, 0, none⟩) (N + L) P.k1) := fun W ⟨nx, pv, hm, hR⟩ j hj => ⟨hm.xn ((hR.lk k _ hg).step j hj), hm.c0⟩
    have HB : ∀ j, j < (lsI ls (k : Int)).length → ((N + k) :: lsI ls (k : Int)).getD j 0 < N + L := fun j hj => by
      obtain ⟨nx, pv, hm, hR⟩ := h
      have := (List.getElem?_eq_some_iff.1 ((hR.lk k _ hg).step j hj)).1
      rwa [hm.nl] at this
    generalize lsI ls (k : Int) = q at *
    have hpos : 0 < q.length := List.length_pos_iff.2 hq
    have hne : (((q.length : Nat) : Int) == 0) = false := by
      have : ((q.length : Nat) : Int) ≠ 0 := by omega
      simpa using this
    have hmk := mk_int q.length (by omega) w
    have hR0 : Row (w.alloc (.cells (madeCells #[.int .i64 0] q.length) 3)) w.heap.size 3 ((at0 q 0).map iv) := row_made (heap_alloc_new w _) (at0_zero q)
    have hB0 : Below w.heap.size w (w.alloc (.cells (madeCells #[.int .i64 0] q.length) 3)) := (Below.refl _ w).alloc (Nat.le_refl _) _
    have h1 := h.below hB0
    clear hi hg ho
    go_enter Try.func59, Try.ntmps59
    go_wp2_with (first
      | (go_at_call 64; refine (HL _ h).mono ?_; rintro e w' ⟨rfl, hw⟩; subst w')
      | (go_at_call 49; refine (HE _ h1).mono ?_; rintro e w' ⟨rfl, hw⟩; subst w'))
    generalize w.alloc (.cells (madeCells #[.int .i64 0] q.length) 3) = W0 at *
    go_loopw [21, 6, 7] (fun v at' _ wr => ∃ j : Nat, j ≤ q.length ∧ v = .int .i64 j ∧ at' = .int .i64 (((N + k) :: q).getD j 0 : Nat) ∧ Row wr w.heap.size 3 ((at0 q j).map iv) ∧ Below w.heap.size w wr) (fun v _ _ _ => 4096 - (intOf v).toNat)
    case atStart => exact ⟨0, by omega, rfl, by simp, hR0, hB0⟩
    case round =>
      obtain ⟨j, hj, rfl, rfl, hR, hB⟩ := hrel
      by_cases hlt : j < q.length
      · obtain ⟨x0, x1⟩ := HX _ (h.below hB) j hlt
        have hb := HB j hlt
        obtain ⟨y, hy⟩ : ∃ y, (at0 q j)[j]? = some y := ⟨_, List.getElem?_eq_getElem (by simpa [at0] using hlt)⟩
        have cy : wr.cell? ⟨w.heap.size, j, none⟩ = some (iv y) := hR.cell (by rw [List.getElem?_map, hy]; rfl)
        have fy := hR.fz j
        have hnext : ((N + k) :: q).getD (j + 1) 0 = q.getD j 0 := by simp
        generalize ((N + k) :: q).getD j 0 = a at *
        have HS := hR.set j (iv (q.getD j 0))
        rw [← List.map_set, at0_set] at HS
        unfold iv at HS
        generalize q.getD j 0 = z at *
        have hb' : (a : Int) < (N : Int) + (L : Int) := by omega
        have hlt' : (j : Int) < (q.length : Int) := by omega
        go_wp2_with fail
        go_roundw
        case rel => exact ⟨j + 1, by omega, by simp, by rw [hnext], HS, hB.trans (((But.refl [w.heap.size] _).set (p := ⟨w.heap.size, j, none⟩) (by simp) _).below hB.size (by simp))⟩
        case measure =>
          simp [intOf]
          omega
      · obtain rfl : j = q.length := by omega
        rw [at0_end] at hR
        go_wp2_with fail
        go_ret
        exact ⟨_, rfl, .inr ⟨_, Nat.le_refl _, rfl, hR⟩, .of_below hB⟩
end

end Go.Proofs.Ytmbpmcgppnanpaa.Lk
