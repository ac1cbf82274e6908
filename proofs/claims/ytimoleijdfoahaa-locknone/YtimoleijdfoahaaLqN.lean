/- New. -/
import Derived.Test.YtimoleijdfoahaaLqR
import Derived.Test.YtimoleijdfoahaaLqK
namespace Go.Proofs.Ytimoleijdfoahaa.Lq
open Go Go.RowKit Go.Proofs.Ytimoleijdfoahaa.Bs Go.Proofs.Ytimoleijdfoahaa.Lo
open Go.Proofs.Ytimoleijdfoahaa.Lk (LQ Pl iv ints new_some)

theorem lnew_nil (a t : Int) (w : World) (hm : a < 1 ∨ 64 < a ∨ t < 1 ∨ 1024 < t) : Calls Try.prog 9 #[.int .i64 a, .int .i64 t] w fun e w' => e = .returned (.pointer none) ∧ Below w.heap.size w w' := by
  by_cases h1 : a < 1
  · go_enter Try.func9, Try.ntmps9
    go_wp2_with fail
    go_ret
    exact ⟨rfl, Below.refl _ _⟩
  by_cases h2 : 64 < a
  · go_enter Try.func9, Try.ntmps9
    go_wp2_with fail
    go_ret
    exact ⟨rfl, Below.refl _ _⟩
  by_cases h3 : t < 1
  · go_enter Try.func9, Try.ntmps9
    go_wp2_with fail
    go_ret
    exact ⟨rfl, Below.refl _ _⟩
  have h4 : 1024 < t := by omega
  go_enter Try.func9, Try.ntmps9
  go_wp2_with fail
  go_ret
  exact ⟨rfl, Below.refl _ _⟩
theorem row_on {W X : World} {G : Nat} {t : TypeId} {vs : List Value} (h : Row W G t vs) (hb : Below W.heap.size W X) : Row X G t vs := h.put (hb.block G h.lt)
theorem row_zero {W : World} (T : Nat) : Row (W.alloc (.cells (madeCells #[.int .i64 0] T) 3)) W.heap.size 3 ((List.replicate T 0).map iv) :=
  Lk.row_made (by show (W.heap.push _)[W.heap.size]? = _; rw [Array.getElem?_push_size]) (Lk.zero_ct T)
/-- The box, at last. -/
theorem new_end {w X : World} {n T o a : Nat} {P : Pl} (ro : Row X o 3 (List.replicate n (Value.int .i64 (-1)))) (ra : Row X a 3 ((List.replicate T 0).map iv)) (q : LQ X P T (n + n) (List.replicate (n + n) [])) (hoa : o ≠ a) (ho : o ∉ [P.B, P.n, P.p, P.w, P.c]) (ha : a ∉ [P.B, P.n, P.p, P.w, P.c]) (b : Below w.heap.size w X) (lo : w.heap.size ≤ o) (la : w.heap.size ≤ a) (lp : ∀ k ∈ [P.B, P.n, P.p, P.w, P.c], w.heap.size ≤ k) :
    PM (X.alloc (.cells #[.slice (some ⟨o, 0, none⟩) n n, .slice (some ⟨a, 0, none⟩) T T, .pointer (some ⟨P.B, 0, none⟩)] 54)) X.heap.size o a P n T (new n T) ∧ Below w.heap.size w (X.alloc (.cells #[.slice (some ⟨o, 0, none⟩) n n, .slice (some ⟨a, 0, none⟩) T T, .pointer (some ⟨P.B, 0, none⟩)] 54)) ∧ ∀ x ∈ bl X.heap.size o a P, w.heap.size ≤ x := by
  have bx : Below X.heap.size X (X.alloc (.cells #[.slice (some ⟨o, 0, none⟩) n n, .slice (some ⟨a, 0, none⟩) T T, .pointer (some ⟨P.B, 0, none⟩)] 54)) := (Below.refl _ X).alloc (Nat.le_refl _) _
  refine ⟨⟨⟨n, T, Nat.le_refl _, Nat.le_refl _, ?_⟩, ?_, row_on ra bx, q.below bx, ?_, by simp [new], by simp [new]⟩, b.trans (bx.mono b.size), fun x hx => ?_⟩
  · show (X.heap.push _)[X.heap.size]? = _
    rw [Array.getElem?_push_size]
  · have := row_on ro bx
    rwa [show (new n T).own.map (Value.int .i64) = List.replicate n (Value.int .i64 (-1)) by simp [new]]
  · unfold bl
    obtain ⟨_, _, hm, -⟩ := id q
    have nd := hm.nd
    have l1 := ro.lt
    have l2 := ra.lt
    refine List.nodup_cons.2 ⟨fun h => ?_, List.nodup_cons.2 ⟨fun h => ?_, List.nodup_cons.2 ⟨ha, nd⟩⟩⟩
    · rcases List.mem_cons.1 h with e | h
      · omega
      · rcases List.mem_cons.1 h with e | h
        · omega
        · have := q.lt5 h
          omega
    · rcases List.mem_cons.1 h with e | h
      · exact hoa e
      · exact ho h
  · rcases List.mem_cons.1 hx with e | hx
    · have := b.size
      omega
    · rcases List.mem_cons.1 hx with e | hx
      · omega
      · rcases List.mem_cons.1 hx with e | hx
        · omega
        · exact lp x hx
set_option maxHeartbeats 4000000 in
theorem lnew_some (n T : Nat) (w : World) (h1 : 1 ≤ n) (h2 : n ≤ 64) (h3 : 1 ≤ T) (h4 : T ≤ 1024) : Calls Try.prog 9 #[.int .i64 n, .int .i64 T] w fun e w' => ∃ B o a P, e = .returned (.pointer (some ⟨B, 0, none⟩)) ∧ PM w' B o a P n T (new n T) ∧ Below w.heap.size w w' ∧ ∀ x ∈ bl B o a P, w.heap.size ≤ x := by
  have a1 : (1 : Int) ≤ (n : Int) := by omega
  have a2 : (n : Int) ≤ 64 := by omega
  have a3 : (1 : Int) ≤ (T : Int) := by omega
  have a4 : (T : Int) ≤ 1024 := by omega
  have m2 := Lk.mk_int T (by omega)
  have CR : ∀ (X : World) (g : Nat), X.cell? ⟨g, 0, none⟩ = some (Value.int .i64 (-1)) → _ := fun X g hX => repeat_any n h1 h2 g 1 (-1) X hX
  have CN := fun X => new_some T (n + n) h3 (by omega) (by omega) (by omega) X
  have hw : ((n + n : Nat) : Int) = IntKind.wrap .i64 (2 * (n : Int)) := by rw [IntKind.wrap_i64]; omega
  rw [hw] at CN
  clear hw
  go_enter Try.func9, Try.ntmps9
  go_wp2_with fail
  go_region_with (first
    | (go_at_call 25; (with_reducible refine (CR _ _ (by simp [go_sem])).mono ?_); rintro e w2 ⟨o, rfl, lo, ro, b2⟩)
    | (go_at_call 26; (with_reducible refine (CN _).mono ?_); rintro e w3 ⟨P, rfl, q3, l3, b3⟩))
  all_goals
    go_wp2_with fail
    go_ret
  · obtain ⟨X, hX⟩ : ∃ X, X = w2.alloc (.cells (madeCells #[.int .i64 0] T) 3) := ⟨_, rfl⟩
    have rz : Row X w2.heap.size 3 ((List.replicate T 0).map iv) := by rw [hX]; exact row_zero T
    have bX : Below w2.heap.size w2 X := by rw [hX]; exact (Below.refl _ w2).alloc (Nat.le_refl _) _
    rw [← hX] at b3 l3
    have b1 : Below w.heap.size w (w.alloc (.cells #[.int .i64 (-1)] 3)).drew := ((Below.refl _ w).alloc (Nat.le_refl _) _).drew
    have rl := ro.lt
    have zl := rz.lt
    obtain ⟨e1, e2, e3⟩ := new_end (row_on (row_on ro bX) b3) (row_on rz b3) q3 (by omega) (fun h => by have := l3 _ h; have := bX.size; omega) (fun h => by have := l3 _ h; omega) (((b1.trans (b2.mono b1.size)).trans (bX.mono (by have := b1.size; have := b2.size; omega))).trans (b3.mono (by have := b1.size; have := b2.size; have := bX.size; omega))) (by have := b1.size; omega) (by have := b1.size; have := b2.size; omega) (fun k hk => by have := l3 k hk; have := b1.size; have := b2.size; have := bX.size; omega)
    exact ⟨_, _, _, _, rfl, e1, e2, e3⟩
  · have bX : Below w3.heap.size w3 (w3.alloc (.cells (madeCells #[.int .i64 0] T) 3)) := (Below.refl _ w3).alloc (Nat.le_refl _) _
    have b1 : Below w.heap.size w (w.alloc (.cells #[.int .i64 (-1)] 3)).drew := ((Below.refl _ w).alloc (Nat.le_refl _) _).drew
    have rl := ro.lt
    have s1 := b1.size
    have s2 := b2.size
    have s3 := b3.size
    have hlt : ∀ k ∈ [P.B, P.n, P.p, P.w, P.c], k < w3.heap.size := fun k hk => q3.lt5 hk
    obtain ⟨e1, e2, e3⟩ := new_end (row_on (row_on ro b3) bX) (row_zero T) (q3.below bX) (by omega) (fun h => by have := l3 _ h; omega) (fun h => by have := hlt _ h; omega) (((b1.trans (b2.mono s1)).trans (b3.mono (by omega))).trans (bX.mono (by omega))) (by omega) (by omega) (fun k hk => by have := l3 k hk; omega)
    rw [World.size_alloc] at e1 e3
    exact ⟨_, _, _, _, rfl, e1, e2, e3⟩
  · obtain ⟨X, hX⟩ : ∃ X, X = ((w.alloc (.cells #[.int .i64 (-1)] 3)).alloc (.cells (madeCells #[.int .i64 0] T) 3)).drew := ⟨_, rfl⟩
    have rz : Row X (w.heap.size + 1) 3 ((List.replicate T 0).map iv) := by
      have := row_zero (W := w.alloc (.cells #[.int .i64 (-1)] 3)) T
      rw [World.size_alloc] at this
      rw [hX]
      exact this.put rfl
    have b1 : Below w.heap.size w X := by rw [hX]; exact (((Below.refl _ w).alloc (Nat.le_refl _) _).alloc (by simp) _).drew
    rw [← hX] at b2 lo
    have rl := ro.lt
    have zl := rz.lt
    have s1 := b1.size
    have s2 := b2.size
    have s3 := b3.size
    obtain ⟨e1, e2, e3⟩ := new_end (row_on ro b3) (row_on (row_on rz b2) b3) q3 (by omega) (fun h => by have := l3 _ h; omega) (fun h => by have := l3 _ h; omega) ((b1.trans (b2.mono s1)).trans (b3.mono (by omega))) (by omega) (by omega) (fun k hk => by have := l3 k hk; omega)
    exact ⟨_, _, _, _, rfl, e1, e2, e3⟩
  · obtain ⟨X, hX⟩ : ∃ X, X = ((w.alloc (.cells (madeCells #[.int .i64 0] T) 3)).alloc (.cells #[.int .i64 (-1)] 3)).drew := ⟨_, rfl⟩
    have rz : Row X w.heap.size 3 ((List.replicate T 0).map iv) := by
      have := row_zero (W := w) T
      rw [hX]
      exact (row_on this ((Below.refl _ _).alloc (Nat.le_refl _) _)).put rfl
    have b1 : Below w.heap.size w X := by rw [hX]; exact (((Below.refl _ w).alloc (Nat.le_refl _) _).alloc (by simp) _).drew
    rw [← hX] at b2 lo
    have rl := ro.lt
    have zl := rz.lt
    have s1 := b1.size
    have s2 := b2.size
    have s3 := b3.size
    obtain ⟨e1, e2, e3⟩ := new_end (row_on ro b3) (row_on (row_on rz b2) b3) q3 (by omega) (fun h => by have := l3 _ h; omega) (fun h => by have := l3 _ h; omega) ((b1.trans (b2.mono s1)).trans (b3.mono (by omega))) (by omega) (by omega) (fun k hk => by have := l3 k hk; omega)
    exact ⟨_, _, _, _, rfl, e1, e2, e3⟩
end Go.Proofs.Ytimoleijdfoahaa.Lq
