/- New. -/
import Derived.Test.YtmbpmcgppnanpaaJlK
import Derived.Test.YtmbpmcgppnanpaaLkNew
namespace Go.Proofs.Ytmbpmcgppnanpaa.Jl
open Go Go.RowKit Go.Shelf Go.Proofs.Ytmbpmcgppnanpaa.Bs Go.Proofs.Ytmbpmcgppnanpaa.Jn
open Go.Proofs.Ytmbpmcgppnanpaa.Lk (LQ Pl iv ints new_some)
set_option linter.unusedSimpArgs false
variable {w w' X : World} {B t j n : Nat} {P : Pl} {σ : St} {ls : List (List Nat)} {wt : List Int}

theorem lnew_nil (a : Int) (w : World) (hm : a < 1 ∨ 1024 < a) : Calls Try.prog 8 #[.int .i64 a] w fun e w' => e = .returned (.pointer none) ∧ Below w.heap.size w w' := by
  by_cases h1 : a < 1
  · go_enter Try.func8, Try.ntmps8
    go_wp2_with fail
    go_ret
    exact ⟨rfl, Below.refl _ _⟩
  have h4 : 1024 < a := by omega
  go_enter Try.func8, Try.ntmps8
  go_wp2_with fail
  go_ret
  exact ⟨rfl, Below.refl _ _⟩
theorem infoKn : (Try.prog.info? 64).map (fun i => (i.zero, i.size, i.bytes)) = some (some (agK 0 0 0), 3, 24) := by kernel_rfl
/-- Places of which nothing is known. -/
def made3 (n : Nat) : Array Value := madeCells #[.int .i64 0, .int .i64 0, .int .i64 0] (n * 3)
theorem mk_kns (n : Nat) (hn : n ≤ 1024) (W : World) : (Instr.makeSlice 49 (.int .i64 n) (.int .i64 n)).run Try.prog W = .ok (.slice (some ⟨W.heap.size, 0, none⟩) n n) (W.alloc (.cells (made3 n) 64)) := by
  obtain ⟨i0, hi, hz0, hz1, hz2⟩ := info_parts infoKn
  have h := run_make (P := Try.prog) W 49 64 i0 (agK 0 0 0) Try.underlying49 hi hz0 .i64 .i64 n n (by omega) (Int.le_refl _) (by rw [hz2]; omega) (by omega)
  rw [hz1, Int.toNat_natCast] at h
  exact h
theorem made3_at {n i k : Nat} (hi : i < n) (hk : k < 3) : (made3 n)[i * 3 + k]? = some (kce r0 k) := by
  unfold made3 madeCells
  rw [Array.getElem?_map, Array.getElem?_range, if_pos (show i * 3 + k < n * 3 by omega), Option.map_some]
  show some ((#[.int .i64 0, .int .i64 0, .int .i64 0] : Array Value)[(i * 3 + k) % 3]!) = _
  rw [show (i * 3 + k) % 3 = k by omega]
  have e : k = 0 ∨ k = 1 ∨ k = 2 := by omega
  rcases e with e | e | e <;> rw [e] <;> rfl
theorem kb_zero {W : World} (n : Nat) : Kb (W.alloc (.cells (made3 n) 64)) W.heap.size n (new n) :=
  ⟨_, heap_alloc_new _ _, fun i k hi hk => by rw [made3_at hi hk, rw_new hi]⟩
theorem row_on {W X : World} {G : Nat} {t : TypeId} {vs : List Value} (h : Row W G t vs) (hb : Below W.heap.size W X) : Row X G t vs := h.put (hb.block G h.lt)
theorem kb_on {W X : World} {G : Nat} (h : Kb W G n σ) (hb : Below W.heap.size W X) : Kb X G n σ := h.put (hb.block G h.lt)
theorem row_zero {W : World} (T : Nat) : Row (W.alloc (.cells (madeCells #[.int .i64 0] T) 3)) W.heap.size 3 ((List.replicate T 0).map (Value.int .i64)) :=
  Lk.row_made (heap_alloc_new _ _) (by simp)
/-- The box, at last. -/
theorem new_end (kt : Kb X t n (new n)) (rj : Row X j 3 ((List.replicate n 0).map (Value.int .i64))) (q : LQ X P n n (List.replicate n [])) (htj : t ≠ j) (ht : t ∉ [P.B, P.n, P.p, P.w, P.c]) (hj : j ∉ [P.B, P.n, P.p, P.w, P.c]) (b : Below w.heap.size w X) (lo : w.heap.size ≤ t) (la : w.heap.size ≤ j) (lp : ∀ k ∈ [P.B, P.n, P.p, P.w, P.c], w.heap.size ≤ k) :
    PM (X.alloc (.cells #[.slice (some ⟨t, 0, none⟩) n n, .pointer (some ⟨P.B, 0, none⟩), .slice (some ⟨j, 0, none⟩) n n] 52)) X.heap.size t j P n (new n) (List.replicate n []) (List.replicate n 0) ∧ Below w.heap.size w (X.alloc (.cells #[.slice (some ⟨t, 0, none⟩) n n, .pointer (some ⟨P.B, 0, none⟩), .slice (some ⟨j, 0, none⟩) n n] 52)) ∧ ∀ x ∈ bl X.heap.size t j P, w.heap.size ≤ x := by
  have bx : Below X.heap.size X (X.alloc (.cells #[.slice (some ⟨t, 0, none⟩) n n, .pointer (some ⟨P.B, 0, none⟩), .slice (some ⟨j, 0, none⟩) n n] 52)) := (Below.refl _ X).alloc (Nat.le_refl _) _
  refine ⟨⟨⟨n, n, Nat.le_refl _, Nat.le_refl _, heap_alloc_new _ _⟩, kb_on kt bx, row_on rj bx, q.below bx, ?_, by simp [new], by simp⟩, b.trans (bx.mono b.size), fun x hx => ?_⟩
  · unfold bl
    obtain ⟨_, _, hm, -⟩ := id q
    have nd := hm.nd
    have l1 := kt.lt
    have l2 := rj.lt
    refine List.nodup_cons.2 ⟨fun h => ?_, List.nodup_cons.2 ⟨fun h => ?_, List.nodup_cons.2 ⟨hj, nd⟩⟩⟩
    · rcases List.mem_cons.1 h with e | h
      · omega
      · rcases List.mem_cons.1 h with e | h
        · omega
        · have := q.lt5 h
          omega
    · rcases List.mem_cons.1 h with e | h
      · exact htj e
      · exact ht h
  · rcases List.mem_cons.1 hx with e | hx
    · have := b.size
      omega
    · rcases List.mem_cons.1 hx with e | hx
      · omega
      · rcases List.mem_cons.1 hx with e | hx
        · omega
        · exact lp x hx
section
set_option maxRecDepth 100000
set_option maxHeartbeats 4000000
theorem lnew_some (n : Nat) (w : World) (h1 : 1 ≤ n) (h2 : n ≤ 1024) : Calls Try.prog 8 #[.int .i64 n] w fun e w' => ∃ B t j P, e = .returned (.pointer (some ⟨B, 0, none⟩)) ∧ PM w' B t j P n (new n) (List.replicate n []) (List.replicate n 0) ∧ Below w.heap.size w w' ∧ ∀ x ∈ bl B t j P, w.heap.size ≤ x := by
  have a1 : (1 : Int) ≤ (n : Int) := by omega
  have a2 : (n : Int) ≤ 1024 := by omega
  have m1 := mk_kns n h2
  have m2 := Lk.mk_int n (by omega)
  have CN := fun X => new_some n n h1 (by omega) h1 (by omega) X
  go_enter Try.func8, Try.ntmps8
  go_wp2_with fail
  go_region_with (first
    | (go_at_call 23; (with_reducible refine (CN _).mono ?_); rintro e w3 ⟨P, rfl, q3, l3, b3⟩))
  all_goals
    go_wp2_with fail
    go_ret
    first
      | (have b1 : Below w.heap.size w (w.alloc (.cells (made3 n) 64)).drew := ((Below.refl _ w).alloc (Nat.le_refl _) _).drew
         have z1 : (w.alloc (.cells (made3 n) 64)).drew.heap.size = w.heap.size + 1 := (by show (w.alloc (.cells (made3 n) 64)).heap.size = _; simp)
         have s3 := b3.size
         have c0 : Below w3.heap.size w3 (w3.alloc (.cells (madeCells #[.int .i64 0] n) 3)) := (Below.refl _ _).alloc (Nat.le_refl _) _
         have sc0 : (w3.alloc (.cells (madeCells #[.int .i64 0] n) 3)).heap.size = w3.heap.size + 1 := World.size_alloc _ _
         have fK : Kb (w.alloc (.cells (made3 n) 64)).drew w.heap.size n (new n) := kb_zero (W := w) n
         obtain ⟨e1, e2, e3⟩ := new_end (w := w) (kb_on (kb_on fK b3) c0) (row_zero (W := w3) n) (q3.below c0) (by omega) (fun h => by have h1 := l3 _ h; have h2 := q3.lt5 h; omega) (fun h => by have h1 := l3 _ h; have h2 := q3.lt5 h; omega) ((b1.trans (b3.mono (by omega))).trans (c0.mono (by omega))) (by omega) (by omega) (fun k hk => by have := l3 k hk; omega)
         try simp only [World.size_alloc, Nat.add_assoc, Nat.reduceAdd] at e1 e2 e3
         exact ⟨_, _, _, _, rfl, e1, e2, e3⟩)
      | (have b1 : Below w.heap.size w ((w.alloc (.cells (madeCells #[.int .i64 0] n) 3)).alloc (.cells (made3 n) 64)).drew := (((Below.refl _ w).alloc (Nat.le_refl _) _).alloc (by simp) _).drew
         have z1 : ((w.alloc (.cells (madeCells #[.int .i64 0] n) 3)).alloc (.cells (made3 n) 64)).drew.heap.size = w.heap.size + 2 := (by show ((w.alloc (.cells (madeCells #[.int .i64 0] n) 3)).alloc (.cells (made3 n) 64)).heap.size = _; simp)
         have s3 := b3.size
         have fI : Row ((w.alloc (.cells (madeCells #[.int .i64 0] n) 3)).alloc (.cells (made3 n) 64)).drew w.heap.size 3 ((List.replicate n 0).map (Value.int .i64)) := row_on (row_zero (W := w) n) ((Below.refl _ _).alloc (Nat.le_refl _) (.cells (made3 n) 64)).drew
         have fK : Kb ((w.alloc (.cells (madeCells #[.int .i64 0] n) 3)).alloc (.cells (made3 n) 64)).drew (w.heap.size + 1) n (new n) := (by have := kb_zero (W := (w.alloc (.cells (madeCells #[.int .i64 0] n) 3))) n; rw [World.size_alloc] at this; exact this)
         obtain ⟨e1, e2, e3⟩ := new_end (w := w) (kb_on fK b3) (row_on fI b3) q3 (by omega) (fun h => by have h1 := l3 _ h; have h2 := q3.lt5 h; omega) (fun h => by have h1 := l3 _ h; have h2 := q3.lt5 h; omega) (b1.trans (b3.mono (by omega))) (by omega) (by omega) (fun k hk => by have := l3 k hk; omega)
         try simp only [World.size_alloc, Nat.add_assoc, Nat.reduceAdd] at e1 e2 e3
         exact ⟨_, _, _, _, rfl, e1, e2, e3⟩)
      | (have b1 : Below w.heap.size w (w.alloc (.cells (madeCells #[.int .i64 0] n) 3)).drew := ((Below.refl _ w).alloc (Nat.le_refl _) _).drew
         have z1 : (w.alloc (.cells (madeCells #[.int .i64 0] n) 3)).drew.heap.size = w.heap.size + 1 := (by show (w.alloc (.cells (madeCells #[.int .i64 0] n) 3)).heap.size = _; simp)
         have s3 := b3.size
         have c0 : Below w3.heap.size w3 (w3.alloc (.cells (made3 n) 64)) := (Below.refl _ _).alloc (Nat.le_refl _) _
         have sc0 : (w3.alloc (.cells (made3 n) 64)).heap.size = w3.heap.size + 1 := World.size_alloc _ _
         have fI : Row (w.alloc (.cells (madeCells #[.int .i64 0] n) 3)).drew w.heap.size 3 ((List.replicate n 0).map (Value.int .i64)) := row_zero (W := w) n
         obtain ⟨e1, e2, e3⟩ := new_end (w := w) (kb_zero (W := w3) n) (row_on (row_on fI b3) c0) (q3.below c0) (by omega) (fun h => by have h1 := l3 _ h; have h2 := q3.lt5 h; omega) (fun h => by have h1 := l3 _ h; have h2 := q3.lt5 h; omega) ((b1.trans (b3.mono (by omega))).trans (c0.mono (by omega))) (by omega) (by omega) (fun k hk => by have := l3 k hk; omega)
         try simp only [World.size_alloc, Nat.add_assoc, Nat.reduceAdd] at e1 e2 e3
         exact ⟨_, _, _, _, rfl, e1, e2, e3⟩)
      | (have b1 : Below w.heap.size w w.drew := (Below.refl _ w).drew
         have z1 : w.drew.heap.size = w.heap.size + 0 := rfl
         have s3 := b3.size
         have c0 : Below w3.heap.size w3 (w3.alloc (.cells (madeCells #[.int .i64 0] n) 3)) := (Below.refl _ _).alloc (Nat.le_refl _) _
         have sc0 : (w3.alloc (.cells (madeCells #[.int .i64 0] n) 3)).heap.size = w3.heap.size + 1 := World.size_alloc _ _
         have c1 : Below (w3.alloc (.cells (madeCells #[.int .i64 0] n) 3)).heap.size (w3.alloc (.cells (madeCells #[.int .i64 0] n) 3)) ((w3.alloc (.cells (madeCells #[.int .i64 0] n) 3)).alloc (.cells (made3 n) 64)) := (Below.refl _ _).alloc (Nat.le_refl _) _
         have sc1 : ((w3.alloc (.cells (madeCells #[.int .i64 0] n) 3)).alloc (.cells (made3 n) 64)).heap.size = (w3.alloc (.cells (madeCells #[.int .i64 0] n) 3)).heap.size + 1 := World.size_alloc _ _
         obtain ⟨e1, e2, e3⟩ := new_end (w := w) (kb_zero (W := (w3.alloc (.cells (madeCells #[.int .i64 0] n) 3))) n) (row_on (row_zero (W := w3) n) c1) ((q3.below c0).below c1) (by omega) (fun h => by have h1 := l3 _ h; have h2 := q3.lt5 h; omega) (fun h => by have h1 := l3 _ h; have h2 := q3.lt5 h; omega) (((b1.trans (b3.mono (by omega))).trans (c0.mono (by omega))).trans (c1.mono (by omega))) (by omega) (by omega) (fun k hk => by have := l3 k hk; omega)
         try simp only [World.size_alloc, Nat.add_assoc, Nat.reduceAdd] at e1 e2 e3
         exact ⟨_, _, _, _, rfl, e1, e2, e3⟩)
      | (have b1 : Below w.heap.size w w.drew := (Below.refl _ w).drew
         have z1 : w.drew.heap.size = w.heap.size + 0 := rfl
         have s3 := b3.size
         have c0 : Below w3.heap.size w3 (w3.alloc (.cells (made3 n) 64)) := (Below.refl _ _).alloc (Nat.le_refl _) _
         have sc0 : (w3.alloc (.cells (made3 n) 64)).heap.size = w3.heap.size + 1 := World.size_alloc _ _
         have c1 : Below (w3.alloc (.cells (made3 n) 64)).heap.size (w3.alloc (.cells (made3 n) 64)) ((w3.alloc (.cells (made3 n) 64)).alloc (.cells (madeCells #[.int .i64 0] n) 3)) := (Below.refl _ _).alloc (Nat.le_refl _) _
         have sc1 : ((w3.alloc (.cells (made3 n) 64)).alloc (.cells (madeCells #[.int .i64 0] n) 3)).heap.size = (w3.alloc (.cells (made3 n) 64)).heap.size + 1 := World.size_alloc _ _
         obtain ⟨e1, e2, e3⟩ := new_end (w := w) (kb_on (kb_zero (W := w3) n) c1) (row_zero (W := (w3.alloc (.cells (made3 n) 64))) n) ((q3.below c0).below c1) (by omega) (fun h => by have h1 := l3 _ h; have h2 := q3.lt5 h; omega) (fun h => by have h1 := l3 _ h; have h2 := q3.lt5 h; omega) (((b1.trans (b3.mono (by omega))).trans (c0.mono (by omega))).trans (c1.mono (by omega))) (by omega) (by omega) (fun k hk => by have := l3 k hk; omega)
         try simp only [World.size_alloc, Nat.add_assoc, Nat.reduceAdd] at e1 e2 e3
         exact ⟨_, _, _, _, rfl, e1, e2, e3⟩)
      | (have b1 : Below w.heap.size w ((w.alloc (.cells (made3 n) 64)).alloc (.cells (madeCells #[.int .i64 0] n) 3)).drew := (((Below.refl _ w).alloc (Nat.le_refl _) _).alloc (by simp) _).drew
         have z1 : ((w.alloc (.cells (made3 n) 64)).alloc (.cells (madeCells #[.int .i64 0] n) 3)).drew.heap.size = w.heap.size + 2 := (by show ((w.alloc (.cells (made3 n) 64)).alloc (.cells (madeCells #[.int .i64 0] n) 3)).heap.size = _; simp)
         have s3 := b3.size
         have fK : Kb ((w.alloc (.cells (made3 n) 64)).alloc (.cells (madeCells #[.int .i64 0] n) 3)).drew w.heap.size n (new n) := kb_on (kb_zero (W := w) n) ((Below.refl _ _).alloc (Nat.le_refl _) (.cells (madeCells #[.int .i64 0] n) 3)).drew
         have fI : Row ((w.alloc (.cells (made3 n) 64)).alloc (.cells (madeCells #[.int .i64 0] n) 3)).drew (w.heap.size + 1) 3 ((List.replicate n 0).map (Value.int .i64)) := (by have := row_zero (W := (w.alloc (.cells (made3 n) 64))) n; rw [World.size_alloc] at this; exact this)
         obtain ⟨e1, e2, e3⟩ := new_end (w := w) (kb_on fK b3) (row_on fI b3) q3 (by omega) (fun h => by have h1 := l3 _ h; have h2 := q3.lt5 h; omega) (fun h => by have h1 := l3 _ h; have h2 := q3.lt5 h; omega) (b1.trans (b3.mono (by omega))) (by omega) (by omega) (fun k hk => by have := l3 k hk; omega)
         try simp only [World.size_alloc, Nat.add_assoc, Nat.reduceAdd] at e1 e2 e3
         exact ⟨_, _, _, _, rfl, e1, e2, e3⟩)
end
end Go.Proofs.Ytmbpmcgppnanpaa.Jl
