/- Contract of Copy. -/
import Derived.Test.YtmjjghhlalaeiaaShelf
import Derived.Test.YtmjjghhlalaeiaaApp
namespace Go.Proofs.Ytmjjghhlalaeiaa
open Go.RowKit

theorem clone_row {W : World} {G c n : Nat} {zs : List Int} (h : Row W G 3 (zs.map (Value.int .i64))) (hl : zs.length = n) (h1 : 1 ≤ n) (hn : n ≤ 8192) :
    Calls Try.prog 45 #[.slice (some ⟨G, 0, none⟩) n c] W fun e w' => ∃ H d, e = .returned (.slice (some ⟨H, 0, none⟩) n d) ∧ Row w' H 3 (zs.map (Value.int .i64)) ∧ W.heap.size ≤ H ∧ Below W.heap.size W w' := by
  refine (Try.slices_Clone_int G 0 n c zs W (by omega) (by omega) (fun j hj => ?_)).mono ?_
  · rw [Nat.zero_add]
    refine h.cell ?_
    rw [List.getElem?_map, List.getD_eq_getElem?_getD, List.getElem?_eq_getElem hj]
    rfl
  · rintro e w' ⟨v, rfl, ho, _, hb⟩
    rw [List.take_of_length_le (by omega)] at ho
    rcases ho.2 with ⟨_, h0⟩ | ⟨g, cap, cur, rfl, hg, hc, h3, _, _, h6⟩
    · omega
    · refine ⟨g, cap, rfl, ⟨cur, hc, fun j v hv => ?_⟩, hg, hb⟩
      have hj := (List.getElem?_eq_some_iff.1 hv).1
      rw [List.length_map, hl] at hj
      have : (cur.toList.take (n * 1))[j]? = (zs.map (Value.int .i64))[j]? := by rw [h6]
      rw [List.getElem?_take_of_lt (by omega), Array.getElem?_toList] at this
      rw [this]
      exact hv

theorem Row.keep {w w' : World} {G : Nat} {t : TypeId} {vs : List Value} (h : Row w G t vs) (hb : Below w.heap.size w w') : Row w' G t vs := h.put (hb.block G h.lt)

section
variable {w : World} {P : Pl} {N L : Nat} {ls : List (List Nat)}

/-- The four slices of Links' block. -/
def S4 (P : Pl) (N L : Nat) (w' : World) : Prop := w'.cell? ⟨P.B, 0, none⟩ = some (.slice (some ⟨P.n, 0, none⟩) (N + L) P.k1) ∧ w'.cell? ⟨P.B, 1, none⟩ = some (.slice (some ⟨P.p, 0, none⟩) (N + L) P.k2) ∧ w'.cell? ⟨P.B, 2, none⟩ = some (.slice (some ⟨P.w, 0, none⟩) N P.k3) ∧ w'.cell? ⟨P.B, 3, none⟩ = some (.slice (some ⟨P.c, 0, none⟩) L P.k4)
theorem s4_on {W W' : World} (hb : Below W.heap.size W W') (h : W.cell? ⟨P.B, 0, none⟩ = some (.slice (some ⟨P.n, 0, none⟩) (N + L) P.k1) ∧ W.cell? ⟨P.B, 1, none⟩ = some (.slice (some ⟨P.p, 0, none⟩) (N + L) P.k2) ∧ W.cell? ⟨P.B, 2, none⟩ = some (.slice (some ⟨P.w, 0, none⟩) N P.k3) ∧ W.cell? ⟨P.B, 3, none⟩ = some (.slice (some ⟨P.c, 0, none⟩) L P.k4)) : W'.cell? ⟨P.B, 0, none⟩ = some (.slice (some ⟨P.n, 0, none⟩) (N + L) P.k1) ∧ W'.cell? ⟨P.B, 1, none⟩ = some (.slice (some ⟨P.p, 0, none⟩) (N + L) P.k2) ∧ W'.cell? ⟨P.B, 2, none⟩ = some (.slice (some ⟨P.w, 0, none⟩) N P.k3) ∧ W'.cell? ⟨P.B, 3, none⟩ = some (.slice (some ⟨P.c, 0, none⟩) L P.k4) :=
  ⟨cell_on hb h.1, cell_on hb h.2.1, cell_on hb h.2.2.1, cell_on hb h.2.2.2⟩

set_option maxHeartbeats 4000000 in
theorem copy_any (h : LQ w P N L ls) :
    Calls Try.prog 46 #[.pointer (some ⟨P.B, 0, none⟩)] w fun e w' => ∃ P2 : Pl, e = .returned (.pointer (some ⟨P2.B, 0, none⟩)) ∧ LQ w' P2 N L ls ∧ (∀ k ∈ [P2.B, P2.n, P2.p, P2.w, P2.c], w.heap.size ≤ k) ∧ Below w.heap.size w w' := by
  obtain ⟨nx, pv, hm, hR⟩ := h
  have hM := made_any hm
  have hz := hm.n1
  have hz2 := hm.n2
  have hz3 := hm.l1
  have hz4 := hm.l2
  have eN : nx.map iv = (ints nx).map (Value.int .i64) := (ints_iv nx).symm
  have eP : pv.map iv = (ints pv).map (Value.int .i64) := (ints_iv pv).symm
  have eC : (ctL ls).map iv = (ints (ctL ls)).map (Value.int .i64) := (ints_iv _).symm
  have CN : ∀ W, LM W P N L nx pv (whL N ls) (ctL ls) → _ := fun W h => clone_row (W := W) (c := P.k1) (n := N + L) (eN ▸ h.rn) (by rw [ints_len]; exact h.nl) (by omega) (by omega)
  have CP : ∀ W, LM W P N L nx pv (whL N ls) (ctL ls) → _ := fun W h => clone_row (W := W) (c := P.k2) (n := N + L) (eP ▸ h.rp) (by rw [ints_len]; exact h.pl) (by omega) (by omega)
  have CW : ∀ W, LM W P N L nx pv (whL N ls) (ctL ls) → _ := fun W h => clone_row (W := W) (c := P.k3) (n := N) h.rw h.wl hz (by omega)
  have CC : ∀ W, LM W P N L nx pv (whL N ls) (ctL ls) → _ := fun W h => clone_row (W := W) (c := P.k4) (n := L) (eC ▸ h.rc) (by rw [ints_len]; exact h.cl) hz3 (by omega)
  go_enter Try.func46, Try.ntmps46
  go_wp2_with (first
    | (go_at_call 62; refine hM.mono ?_; rintro e w' ⟨rfl, hw⟩; subst w'))
  have hS := (⟨hm.c0, hm.c1, hm.c2, hm.c3⟩ : S4 P N L w)
  have hS' : w.cell? ⟨P.B, 0, none⟩ = some (.slice (some ⟨P.n, 0, none⟩) (N + L) P.k1) ∧ w.cell? ⟨P.B, 1, none⟩ = some (.slice (some ⟨P.p, 0, none⟩) (N + L) P.k2) ∧ w.cell? ⟨P.B, 2, none⟩ = some (.slice (some ⟨P.w, 0, none⟩) N P.k3) ∧ w.cell? ⟨P.B, 3, none⟩ = some (.slice (some ⟨P.c, 0, none⟩) L P.k4) := hS
  have hSd := s4_on (P := P) (N := N) (L := L) ((Below.refl _ w).drew) hS'
  have hmd := hm.keep (But.refl [] w).drew
  go_region_held3 (fun w' => w'.cell? ⟨P.B, 0, none⟩ = some (.slice (some ⟨P.n, 0, none⟩) (N + L) P.k1) ∧ w'.cell? ⟨P.B, 1, none⟩ = some (.slice (some ⟨P.p, 0, none⟩) (N + L) P.k2) ∧ w'.cell? ⟨P.B, 2, none⟩ = some (.slice (some ⟨P.w, 0, none⟩) N P.k3) ∧ w'.cell? ⟨P.B, 3, none⟩ = some (.slice (some ⟨P.c, 0, none⟩) L P.k4)) (first | with_reducible assumption | with_reducible exact hSd | (with_reducible refine s4_on ((Below.refl _ _).alloc (Nat.le_refl _) _) ?_; with_reducible assumption)) (first
    | (go_at_call 45; (with_reducible refine (CN _ hmd).mono ?_); rintro e w1 ⟨H1, d1, rfl, r1, g1, b1⟩; have m1 := hmd.keep (.of_below b1); have k1 := s4_on (P := P) (N := N) (L := L) b1 hSd)
    | (go_at_call 45; (with_reducible refine (CP _ m1).mono ?_); rintro e w2 ⟨H2, d2, rfl, r2, g2, b2⟩; have m2 := m1.keep (.of_below b2); have k2 := s4_on (P := P) (N := N) (L := L) b2 k1)
    | (go_at_call 45; (with_reducible refine (CW _ m2).mono ?_); rintro e w3 ⟨H3, d3, rfl, r3, g3, b3⟩; have m3 := m2.keep (.of_below b3); have k3 := s4_on (P := P) (N := N) (L := L) b3 k2)
    | (go_at_call 45; (with_reducible refine (CC _ m3).mono ?_); rintro e w4 ⟨H4, d4, rfl, r4, g4, b4⟩; have k4 := s4_on (P := P) (N := N) (L := L) b4 k3))
  all_goals
    clear CN CP CW CC hmd m1 m2 m3 k1 k2 k3 k4 hSd hS hS' hM
    go_wp2_with fail
    go_ret
    have l1 := r1.lt
    have l2 := r2.lt
    have l3 := r3.lt
    have l4 := r4.lt
    have s1 := b1.size
    have s2 := b2.size
    have s3 := b3.size
    have s4 := b4.size
    have s0 : w.drew.heap.size = w.heap.size := rfl
    have bd : Below w.heap.size w w1 := (Below.refl _ w).drew.trans b1
    have bd2 := bd.trans (b2.mono bd.size)
    have bd3 := bd2.trans (b3.mono bd2.size)
    have bd4 := bd3.trans (b4.mono bd3.size)
    have ba : Below w4.heap.size w4 (w4.alloc (.cells #[.slice (some ⟨H1, 0, none⟩) (N + L) d1, .slice (some ⟨H2, 0, none⟩) (N + L) d2, .slice (some ⟨H3, 0, none⟩) N d3, .slice (some ⟨H4, 0, none⟩) L d4] 79)) := (Below.refl _ _).alloc (Nat.le_refl _) _
    rw [← eN] at r1
    rw [← eP] at r2
    rw [← eC] at r4
    refine ⟨⟨w4.heap.size, H1, H2, H3, H4, d1, d2, d3, d4⟩, rfl, ⟨nx, pv, ⟨heap_alloc_new w4 _, (((r1.keep b2).keep b3).keep b4).keep ba, ((r2.keep b3).keep b4).keep ba, (r3.keep b4).keep ba, r4.keep ba, (by simp <;> omega), hm.nl, hm.pl, hm.wl, hm.cl, hm.n1, hm.n2, hm.l1, hm.l2⟩, hR⟩, (by simp <;> omega), bd4.trans (ba.mono bd4.size)⟩
end

end Go.Proofs.Ytmjjghhlalaeiaa
