/- What the statements' walks lean on. -/
/- Copy. -/
import Derived.Test.YtjgclehghnmhnaaDoorJ13LCopies
import Derived.Test.YtjgclehghnmhnaaDoorLfH
namespace Go.Proofs.YtjgclehghnmhnaaDoor
open Go Go.RowKit

theorem zS_A : spA zS = #[.int .i64 0, .int .i64 0, .int .i64 0, .bool false, .int .i64 0, .int .i64 0, .int .i64 0, .int .i64 0, .int .i64 0, .int .i64 0, .int .i64 0, .int .i64 0, .int .i64 0, .int .i64 0, .int .i64 0] := rfl
theorem s15_one (e : Sp) : (s15 e).toArray.all (·.oneCell') = true := all_oneCell_toArray (fun u hu => by
  simp [s15] at hu
  rcases hu with rfl | rfl | rfl | rfl | rfl | rfl | rfl | rfl | rfl | rfl | rfl | rfl | rfl | rfl | rfl <;> rfl)
theorem Cel.there15 {W : World} {b : Nat} {t : TypeId} {a : Sp} (h : Cel W b (spA a) t) : W.there b 0 15 := fun k hk => ⟨by
  rw [Nat.zero_add]
  have hk' : k < (spA a).size := hk
  rw [Cel.cell (j := k) h (Array.getElem?_eq_getElem hk')]
  rfl, h.fz _⟩
theorem Cel.range15 {W : World} {b : Nat} {t : TypeId} {a : Sp} (h : Cel W b (spA a) t) : W.rangeAt b 0 (s15 a) := fun j v hv => by
  rw [Nat.zero_add]
  exact h.cell (by rw [← s15_arr]; simpa using hv)
theorem Cel.all15 {W : World} {b : Nat} {t : TypeId} {a0 a1 a2 a3 a4 a5 a6 a7 a8 a9 a10 a11 a12 a13 a14 : Value} (v0 v1 v2 v3 v4 v5 v6 v7 v8 v9 v10 v11 v12 v13 v14 : Value) (h : Cel W b #[a0, a1, a2, a3, a4, a5, a6, a7, a8, a9, a10, a11, a12, a13, a14] t) : Cel (W.setCells b 0 [v0, v1, v2, v3, v4, v5, v6, v7, v8, v9, v10, v11, v12, v13, v14]) b #[v0, v1, v2, v3, v4, v5, v6, v7, v8, v9, v10, v11, v12, v13, v14] t := by
  have h0 : Cel (W.setCell ⟨b, 0, none⟩ v0) b #[v0, a1, a2, a3, a4, a5, a6, a7, a8, a9, a10, a11, a12, a13, a14] t := Cel.set (j := 0) h v0
  have h1 : Cel ((W.setCell ⟨b, 0, none⟩ v0).setCell ⟨b, 1, none⟩ v1) b #[v0, v1, a2, a3, a4, a5, a6, a7, a8, a9, a10, a11, a12, a13, a14] t := Cel.set (j := 1) h0 v1
  have h2 : Cel (((W.setCell ⟨b, 0, none⟩ v0).setCell ⟨b, 1, none⟩ v1).setCell ⟨b, 2, none⟩ v2) b #[v0, v1, v2, a3, a4, a5, a6, a7, a8, a9, a10, a11, a12, a13, a14] t := Cel.set (j := 2) h1 v2
  have h3 : Cel ((((W.setCell ⟨b, 0, none⟩ v0).setCell ⟨b, 1, none⟩ v1).setCell ⟨b, 2, none⟩ v2).setCell ⟨b, 3, none⟩ v3) b #[v0, v1, v2, v3, a4, a5, a6, a7, a8, a9, a10, a11, a12, a13, a14] t := Cel.set (j := 3) h2 v3
  have h4 : Cel (((((W.setCell ⟨b, 0, none⟩ v0).setCell ⟨b, 1, none⟩ v1).setCell ⟨b, 2, none⟩ v2).setCell ⟨b, 3, none⟩ v3).setCell ⟨b, 4, none⟩ v4) b #[v0, v1, v2, v3, v4, a5, a6, a7, a8, a9, a10, a11, a12, a13, a14] t := Cel.set (j := 4) h3 v4
  have h5 : Cel ((((((W.setCell ⟨b, 0, none⟩ v0).setCell ⟨b, 1, none⟩ v1).setCell ⟨b, 2, none⟩ v2).setCell ⟨b, 3, none⟩ v3).setCell ⟨b, 4, none⟩ v4).setCell ⟨b, 5, none⟩ v5) b #[v0, v1, v2, v3, v4, v5, a6, a7, a8, a9, a10, a11, a12, a13, a14] t := Cel.set (j := 5) h4 v5
  have h6 : Cel (((((((W.setCell ⟨b, 0, none⟩ v0).setCell ⟨b, 1, none⟩ v1).setCell ⟨b, 2, none⟩ v2).setCell ⟨b, 3, none⟩ v3).setCell ⟨b, 4, none⟩ v4).setCell ⟨b, 5, none⟩ v5).setCell ⟨b, 6, none⟩ v6) b #[v0, v1, v2, v3, v4, v5, v6, a7, a8, a9, a10, a11, a12, a13, a14] t := Cel.set (j := 6) h5 v6
  have h7 : Cel ((((((((W.setCell ⟨b, 0, none⟩ v0).setCell ⟨b, 1, none⟩ v1).setCell ⟨b, 2, none⟩ v2).setCell ⟨b, 3, none⟩ v3).setCell ⟨b, 4, none⟩ v4).setCell ⟨b, 5, none⟩ v5).setCell ⟨b, 6, none⟩ v6).setCell ⟨b, 7, none⟩ v7) b #[v0, v1, v2, v3, v4, v5, v6, v7, a8, a9, a10, a11, a12, a13, a14] t := Cel.set (j := 7) h6 v7
  have h8 : Cel (((((((((W.setCell ⟨b, 0, none⟩ v0).setCell ⟨b, 1, none⟩ v1).setCell ⟨b, 2, none⟩ v2).setCell ⟨b, 3, none⟩ v3).setCell ⟨b, 4, none⟩ v4).setCell ⟨b, 5, none⟩ v5).setCell ⟨b, 6, none⟩ v6).setCell ⟨b, 7, none⟩ v7).setCell ⟨b, 8, none⟩ v8) b #[v0, v1, v2, v3, v4, v5, v6, v7, v8, a9, a10, a11, a12, a13, a14] t := Cel.set (j := 8) h7 v8
  have h9 : Cel ((((((((((W.setCell ⟨b, 0, none⟩ v0).setCell ⟨b, 1, none⟩ v1).setCell ⟨b, 2, none⟩ v2).setCell ⟨b, 3, none⟩ v3).setCell ⟨b, 4, none⟩ v4).setCell ⟨b, 5, none⟩ v5).setCell ⟨b, 6, none⟩ v6).setCell ⟨b, 7, none⟩ v7).setCell ⟨b, 8, none⟩ v8).setCell ⟨b, 9, none⟩ v9) b #[v0, v1, v2, v3, v4, v5, v6, v7, v8, v9, a10, a11, a12, a13, a14] t := Cel.set (j := 9) h8 v9
  have h10 : Cel (((((((((((W.setCell ⟨b, 0, none⟩ v0).setCell ⟨b, 1, none⟩ v1).setCell ⟨b, 2, none⟩ v2).setCell ⟨b, 3, none⟩ v3).setCell ⟨b, 4, none⟩ v4).setCell ⟨b, 5, none⟩ v5).setCell ⟨b, 6, none⟩ v6).setCell ⟨b, 7, none⟩ v7).setCell ⟨b, 8, none⟩ v8).setCell ⟨b, 9, none⟩ v9).setCell ⟨b, 10, none⟩ v10) b #[v0, v1, v2, v3, v4, v5, v6, v7, v8, v9, v10, a11, a12, a13, a14] t := Cel.set (j := 10) h9 v10
  have h11 : Cel ((((((((((((W.setCell ⟨b, 0, none⟩ v0).setCell ⟨b, 1, none⟩ v1).setCell ⟨b, 2, none⟩ v2).setCell ⟨b, 3, none⟩ v3).setCell ⟨b, 4, none⟩ v4).setCell ⟨b, 5, none⟩ v5).setCell ⟨b, 6, none⟩ v6).setCell ⟨b, 7, none⟩ v7).setCell ⟨b, 8, none⟩ v8).setCell ⟨b, 9, none⟩ v9).setCell ⟨b, 10, none⟩ v10).setCell ⟨b, 11, none⟩ v11) b #[v0, v1, v2, v3, v4, v5, v6, v7, v8, v9, v10, v11, a12, a13, a14] t := Cel.set (j := 11) h10 v11
  have h12 : Cel (((((((((((((W.setCell ⟨b, 0, none⟩ v0).setCell ⟨b, 1, none⟩ v1).setCell ⟨b, 2, none⟩ v2).setCell ⟨b, 3, none⟩ v3).setCell ⟨b, 4, none⟩ v4).setCell ⟨b, 5, none⟩ v5).setCell ⟨b, 6, none⟩ v6).setCell ⟨b, 7, none⟩ v7).setCell ⟨b, 8, none⟩ v8).setCell ⟨b, 9, none⟩ v9).setCell ⟨b, 10, none⟩ v10).setCell ⟨b, 11, none⟩ v11).setCell ⟨b, 12, none⟩ v12) b #[v0, v1, v2, v3, v4, v5, v6, v7, v8, v9, v10, v11, v12, a13, a14] t := Cel.set (j := 12) h11 v12
  have h13 : Cel ((((((((((((((W.setCell ⟨b, 0, none⟩ v0).setCell ⟨b, 1, none⟩ v1).setCell ⟨b, 2, none⟩ v2).setCell ⟨b, 3, none⟩ v3).setCell ⟨b, 4, none⟩ v4).setCell ⟨b, 5, none⟩ v5).setCell ⟨b, 6, none⟩ v6).setCell ⟨b, 7, none⟩ v7).setCell ⟨b, 8, none⟩ v8).setCell ⟨b, 9, none⟩ v9).setCell ⟨b, 10, none⟩ v10).setCell ⟨b, 11, none⟩ v11).setCell ⟨b, 12, none⟩ v12).setCell ⟨b, 13, none⟩ v13) b #[v0, v1, v2, v3, v4, v5, v6, v7, v8, v9, v10, v11, v12, v13, a14] t := Cel.set (j := 13) h12 v13
  have h14 : Cel (((((((((((((((W.setCell ⟨b, 0, none⟩ v0).setCell ⟨b, 1, none⟩ v1).setCell ⟨b, 2, none⟩ v2).setCell ⟨b, 3, none⟩ v3).setCell ⟨b, 4, none⟩ v4).setCell ⟨b, 5, none⟩ v5).setCell ⟨b, 6, none⟩ v6).setCell ⟨b, 7, none⟩ v7).setCell ⟨b, 8, none⟩ v8).setCell ⟨b, 9, none⟩ v9).setCell ⟨b, 10, none⟩ v10).setCell ⟨b, 11, none⟩ v11).setCell ⟨b, 12, none⟩ v12).setCell ⟨b, 13, none⟩ v13).setCell ⟨b, 14, none⟩ v14) b #[v0, v1, v2, v3, v4, v5, v6, v7, v8, v9, v10, v11, v12, v13, v14] t := Cel.set (j := 14) h13 v14
  exact h14
theorem Cel.st {W : World} {b : Nat} {t : TypeId} {a : Sp} (x : Sp) (h : Cel W b (spA a) t) : Cel (W.setCells b 0 (s15 x)) b (spA x) t := by
  exact Cel.all15 _ _ _ _ _ _ _ _ _ _ _ _ _ _ _ h
theorem AtS.put {w : World} {b o : Nat} {s : Sp} (h : AtS w b o s) : w.rangeAt b o (s15 s) := h.1
section
variable {W0 w w1 w2 : World} {B M N : Nat} {T R : List Nat} {σ : Sta}
theorem Pr.new (h1 : TQ w1 B T N σ) (s1 : Step [] w T w1) (h2 : RQ w2 M R N σ) (s2 : Step [] w1 R w2) : Pr w w2 B T M R N σ := by
  refine ⟨h1.keep s2.but, h2, fun x hx hr => ?_, s1.trans (by simpa using s2.right T)⟩
  have := h1.lt x hx
  rcases s2.new x hr with h | h
  · simp at h
  · omega
/-- The document's row, where it lies. -/
theorem RQ.row (h : RQ w M R N σ) : ∃ sl c, w.cell? ⟨M, 1, none⟩ = some (.slice sl σ.xs.length c) ∧ ∀ W, Below w.heap.size w W → AV W sl σ.xs := by
  obtain ⟨S, A, K, v, rfl, hm⟩ := h
  obtain ⟨sl, c, rfl, he⟩ := hm.shape
  exact ⟨sl, c, hm.c1, fun W b => he.below b⟩
end
end Go.Proofs.YtjgclehghnmhnaaDoor
namespace Go.Proofs.YtjgclehghnmhnaaDoor
open Go Go.RowKit

theorem run_makeHint (n : Nat) (w : World) : (Instr.makeMap 65 (some (.int .i64 n))).run Tryd.prog w = .ok (.map (some w.heap.size)) (w.alloc (.map #[] 0)) := by
  unfold Instr.makeMap
  simp only [Sem.run_bind, run_underlying Tryd.underlying65, Result.andThen_ok]
  rfl
theorem eq_of_mem_srt : ∀ {l m : List Ac}, Srt l → Srt m → (∀ x, x ∈ l ↔ x ∈ m) → l = m
  | [], [], _, _, _ => rfl
  | [], b :: s, _, _, h => by have := (h b).2 (by simp); simp at this
  | a :: r, [], _, _, h => by have := (h a).1 (by simp); simp at this
  | a :: r, b :: s, h1, h2, h => by
    obtain ⟨a1, a2⟩ := List.pairwise_cons.1 h1
    obtain ⟨b1, b2⟩ := List.pairwise_cons.1 h2
    have hab : a = b := by
      rcases List.mem_cons.1 ((h a).1 (by simp)) with e | ha
      · exact e
      · rcases List.mem_cons.1 ((h b).2 (by simp)) with e | hb
        · exact e.symm
        · have := a1 b hb
          have := b1 a ha
          omega
    subst hab
    rw [eq_of_mem_srt a2 b2 (fun p => ⟨fun hp => by
      rcases List.mem_cons.1 ((h p).1 (by simp [hp])) with e | hp'
      · have := a1 p hp
        rw [e] at this
        omega
      · exact hp', fun hp => by
      rcases List.mem_cons.1 ((h p).2 (by simp [hp])) with e | hp'
      · have := b1 p hp
        rw [e] at this
        omega
      · exact hp'⟩)]

/-- A table that is being filled. -/
structure TP (w : World) (B S G M N : Nat) (pb : Int → Nat) (ag : List Nat) (tk : List Bool) (ys : List Ac) : Prop where
  b : w.heap[B]? = some (.cells #[.pointer (some ⟨S, 0, none⟩), .map (some M)] 67 (0, 0))
  s : SlQ w S G N ag tk
  m : PM w M ys.length (fB pb ys)
  a : ∀ a ∈ ys, Cel w (pb a.id) (acA a) 44
  nd : (bT B S G M pb ys).Nodup
  srt : Srt ys
section
variable {w w' : World} {B S G M N : Nat} {pb : Int → Nat} {ag : List Nat} {tk : List Bool} {ys : List Ac}
theorem TP.lt (h : TP w B S G M N pb ag tk ys) {x : Nat} (hx : x ∈ bT B S G M pb ys) : x < w.heap.size := by
  obtain ⟨l1, l2, _⟩ := h.s.lts
  rcases bT_out hx with rfl | rfl | rfl | rfl | ⟨a, ha, rfl⟩
  · exact (Array.getElem?_eq_some_iff.1 h.b).1
  · exact l1
  · exact l2
  · exact h.m.lt
  · exact (h.a a ha).lt
theorem TP.but {T : List Nat} (h : TP w B S G M N pb ag tk ys) (hb : But T w w') (hT : Disj (bT B S G M pb ys) T) : TP w' B S G M N pb ag tk ys := by
  have m1 : B ∈ bT B S G M pb ys := by simp [bT]
  have m2 : S ∈ bT B S G M pb ys := by simp [bT]
  have m3 : G ∈ bT B S G M pb ys := by simp [bT]
  have m4 : M ∈ bT B S G M pb ys := by simp [bT]
  exact ⟨(hb.block B (h.lt m1) (hT _ m1)).trans h.b, h.s.but hb (hT _ m2) (hT _ m3), h.m.but hb (hT _ m4), fun a ha => (h.a a ha).but hb (hT _ (bT_mem ha)), h.nd, h.srt⟩
theorem TP.add (h : TP w B S G M N pb ag tk ys) {w3 : World} {n : Ac} (hn : ∀ b ∈ ys, b.id ≠ n.id)
    (hm : PM w3 M (ys.length + 1) (fun j => if j = n.id then some w.heap.size else fB pb ys j)) (hb3 : But [M] (w.alloc (.cells (acA n) 44)) w3) :
    ∃ pb', TP w3 B S G M N pb' ag tk (insA n ys) ∧ ∀ x ∈ bT B S G M pb' (insA n ys), x ∈ bT B S G M pb ys ∨ x = w.heap.size := by
  have hn4 := h.nd
  unfold bT at hn4
  simp only [List.nodup_cons, List.mem_cons, not_or] at hn4
  obtain ⟨⟨a1, a2, a3, a4⟩, ⟨b1, b2, b3⟩, ⟨c1, c2⟩, d, e⟩ := hn4
  have hP : ∀ x ∈ bT B S G M pb ys, x < w.heap.size := fun x hx => h.lt hx
  have hmem : ∀ {b}, b ∈ insA n ys ↔ b = n ∨ (b ∈ ys ∧ b.id ≠ n.id) := mem_insA h.srt
  have hpb : ∀ b ∈ ys, (if b.id = n.id then w.heap.size else pb b.id) = pb b.id := fun b hb => if_neg (hn b hb)
  have hperm : ((insA n ys).map (fun a => if a.id = n.id then w.heap.size else pb a.id)).Perm (w.heap.size :: ys.map (fun a => pb a.id)) := by
    have := (perm_insA hn).map (fun a : Ac => if a.id = n.id then w.heap.size else pb a.id)
    rw [List.map_cons, if_pos rfl, List.map_congr_left (l := ys) (g := fun a => pb a.id) hpb] at this
    exact this
  have hB13 : But [M] w w3 := ((But.refl _ w).alloc _).trans hb3
  refine ⟨fun j => if j = n.id then w.heap.size else pb j, ⟨?_, ?_, ?_, fun b hb => ?_, ?_, insA_srt h.srt⟩, fun x hx => ?_⟩
  · exact (hB13.block B (h.lt (by simp [bT])) (by simpa using a3)).trans h.b
  · exact h.s.but hB13 (by simpa using b2) (by simpa using c1)
  · show PM w3 M (insA n ys).length (fB _ (insA n ys))
    rw [len_insA h.srt hn]
    have : fB (fun j => if j = n.id then w.heap.size else pb j) (insA n ys) = (fun j => if j = n.id then some w.heap.size else fB pb ys j) := by
      funext j
      unfold fB
      rw [fnd_insA h.srt]
      by_cases hj : j = n.id
      · simp [hj]
      · simp [hj]
    rw [this]
    exact hm
  · rcases hmem.1 hb with rfl | ⟨hb2, hne⟩
    · rw [if_pos rfl]
      refine (Cel.new w _ _).but hb3 ?_
      simp only [List.mem_singleton]
      intro e
      have := hP M (by simp [bT])
      omega
    · rw [if_neg hne]
      refine (h.a b hb2).but hB13 ?_
      simp only [List.mem_singleton]
      intro e
      exact d (e ▸ List.mem_map.2 ⟨b, hb2, rfl⟩)
  · have h1 : (bT B S G M (fun j => if j = n.id then w.heap.size else pb j) (insA n ys)).Perm (w.heap.size :: bT B S G M pb ys) := by
      unfold bT
      refine (((((hperm.cons M).cons G).cons S).cons B)).trans ?_
      exact (((((List.Perm.swap _ _ _).cons G).cons S).cons B).trans (((List.Perm.swap _ _ _).cons S).cons B)).trans (((List.Perm.swap _ _ _).cons B).trans (List.Perm.swap _ _ _))
    rw [h1.nodup_iff, List.nodup_cons]
    exact ⟨fun hx => by have := hP _ hx; omega, h.nd⟩
  · rcases bT_out hx with rfl | rfl | rfl | rfl | ⟨b, hb, rfl⟩
    · exact .inl (by simp [bT])
    · exact .inl (by simp [bT])
    · exact .inl (by simp [bT])
    · exact .inl (by simp [bT])
    · rcases hmem.1 hb with rfl | ⟨hb2, hne⟩
      · exact .inr (by rw [if_pos rfl])
      · refine .inl ?_
        rw [if_neg hne]
        exact bT_mem hb2
end

section
variable {w : World} {B N : Nat} {T : List Nat} {σ : Sta}
set_option maxHeartbeats 2000000 in
set_option maxRecDepth 100000 in
theorem tcopy_any (h : TQ w B T N σ) :
    Calls Tryd.prog 26 #[.pointer (some ⟨B, 0, none⟩)] w fun e w' => ∃ B' T', e = .returned (.pointer (some ⟨B', 0, none⟩)) ∧ TQ w' B' T' N σ ∧ Step [] w T' w' := by
  obtain ⟨S, G, M, pb, rfl, hm⟩ := h
  have hM := tmade hm
  have hlen : σ.xs.length ≤ 4096 := Nat.le_trans hm.ok.len hm.ok.n4
  have HC : ∀ W, Below w.heap.size w W → Calls Tryd.prog 55 #[.pointer (some ⟨S, 0, none⟩)] W fun e w' => ∃ C H, e = .returned (.pointer (some ⟨C, 0, none⟩)) ∧ SlQ w' C H N σ.ag σ.tk ∧ W.heap.size ≤ C ∧ W.heap.size ≤ H ∧ Below W.heap.size W w' := fun W hB => copy_any (hm.below hB).s
  have HK : ∀ W, Below w.heap.size w W → W.cell? ⟨B, 0, none⟩ = some (.pointer (some ⟨S, 0, none⟩)) ∧ W.cell? ⟨B, 1, none⟩ = some (.map (some M)) ∧ ∀ ty, (Builtin.len_ #[65] ty #[.map (some M)]).run Tryd.prog W = .ok (.int .i64 σ.xs.length) W := fun W hB => ⟨(hm.below hB).c0, (hm.below hB).c1, fun ty => (hm.below hB).m.len ty⟩
  have hmh := run_makeHint σ.xs.length
  go_enter Tryd.func26, Tryd.ntmps26
  go_upto_region 3 with (go_at_call 40; refine hM.mono ?_; rintro e w' ⟨rfl, hw⟩; subst w')
  refine wp_region_held_drew (S := (fun w' : World => Below w.heap.size w w')) (by kernel_rfl) ((Below.refl _ w).drew) (fun hHeld => ?_)
  refine anyH_take (i := 0) (v := ?_) (some 10) rfl rfl (by kernel_rfl) (fun _ _ _ h => h) (Or.inl ⟨by rfl, ?_⟩) (by assumption) ?_
  rotate_left
  · (intro w hSw; obtain ⟨e0, e1, e2⟩ := HK _ hSw; go_simp; all_goals with_reducible rfl)
  try simp only [Act.put, List.setIfInBounds_toArray, List.set_cons_zero, List.set_cons_succ]
  refine anyH_take (i := 1) (v := ?_) (some 11) rfl rfl (by kernel_rfl) (fun _ _ _ h => h) (Or.inl ⟨by rfl, ?_⟩) (by assumption) ?_
  rotate_left
  · (intro w hSw; obtain ⟨e0, e1, e2⟩ := HK _ hSw; go_simp; all_goals with_reducible rfl)
  try simp only [Act.put, List.setIfInBounds_toArray, List.set_cons_zero, List.set_cons_succ]
  refine anyH_take (i := 2) (v := ?_) (some 12) rfl rfl (by kernel_rfl) (fun _ _ _ h => h) (Or.inl ⟨by rfl, ?_⟩) (by assumption) ?_
  rotate_left
  · (intro w hSw; obtain ⟨e0, e1, e2⟩ := HK _ hSw; go_simp; all_goals with_reducible rfl)
  try simp only [Act.put, List.setIfInBounds_toArray, List.set_cons_zero, List.set_cons_succ]
  refine anyH_take (i := 3) (v := ?_) (some 13) rfl rfl (by kernel_rfl) (fun _ _ _ h => h) (Or.inl ⟨by rfl, ?_⟩) (by assumption) ?_
  rotate_left
  · (intro w hSw; obtain ⟨e0, e1, e2⟩ := HK _ hSw; go_simp; all_goals with_reducible rfl)
  try simp only [Act.put, List.setIfInBounds_toArray, List.set_cons_zero, List.set_cons_succ]
  refine anyH_take (i := 5) (v := ?_) (some 15) rfl rfl (by kernel_rfl) (fun _ _ _ h => h) (Or.inl ⟨by rfl, ?_⟩) (by assumption) ?_
  rotate_left
  · (intro w hSw; obtain ⟨e0, e1, e2⟩ := HK _ hSw; go_simp; all_goals with_reducible rfl)
  try simp only [Act.put, List.setIfInBounds_toArray, List.set_cons_zero, List.set_cons_succ]
  refine anyH_take (i := 6) (v := ?_) (some 16) rfl rfl (by kernel_rfl) (fun _ _ _ h => h) (Or.inl ⟨by rfl, ?_⟩) (by assumption) ?_
  rotate_left
  · (intro w hSw; obtain ⟨e0, e1, e2⟩ := HK _ hSw; go_simp; all_goals with_reducible rfl)
  try simp only [Act.put, List.setIfInBounds_toArray, List.set_cons_zero, List.set_cons_succ]
  refine anyH_take (i := 7) (v := ?_) (some 17) rfl rfl (by kernel_rfl) (fun _ _ _ h => h) (Or.inl ⟨by rfl, ?_⟩) (by assumption) ?_
  rotate_left
  · (intro w hSw; obtain ⟨e0, e1, e2⟩ := HK _ hSw; go_simp; all_goals with_reducible rfl)
  try simp only [Act.put, List.setIfInBounds_toArray, List.set_cons_zero, List.set_cons_succ]
  refine anyH_take (i := 8) (v := ?_) (some 18) rfl rfl (by kernel_rfl) (fun _ _ _ h => h) (Or.inl ⟨by rfl, ?_⟩) (by assumption) ?_
  rotate_left
  · (intro w hSw; obtain ⟨e0, e1, e2⟩ := HK _ hSw; go_simp; all_goals with_reducible rfl)
  try simp only [Act.put, List.setIfInBounds_toArray, List.set_cons_zero, List.set_cons_succ]
  refine anyH_one (i := 4) (by kernel_rfl) rfl (fun K hK => ?_)
  go_simp
  refine (HC w.drew (Below.refl _ w).drew).mono ?_
  rintro e w1 ⟨C, H, rfl, hs1, hC1, hH1, hB1⟩
  have hBw1 : Below w.heap.size w w1 := (Below.refl _ w).drew.trans hB1
  refine hK.out _ _ hBw1 (fun hHeld => ?_)
  clear hK K HC
  try simp only [Act.put, List.setIfInBounds_toArray, List.set_cons_zero, List.set_cons_succ]
  refine anyH_take (i := 9) (v := ?_) (some 19) rfl rfl (by kernel_rfl) (fun _ _ _ h => h) (Or.inl ⟨by rfl, ?_⟩) (by assumption) ?_
  rotate_left
  · (intro w hSw; obtain ⟨e0, e1, e2⟩ := HK _ hSw; go_simp; all_goals with_reducible rfl)
  try simp only [Act.put, List.setIfInBounds_toArray, List.set_cons_zero, List.set_cons_succ]
  refine anyH_one (i := 10) (by kernel_rfl) rfl (fun K hK => ?_)
  go_simp
  refine hK.out _ _ (hBw1.alloc hBw1.size _) (fun hHeld => ?_)
  clear hK K
  try simp only [Act.put, List.setIfInBounds_toArray, List.set_cons_zero, List.set_cons_succ]
  refine anyH_take (i := 11) (v := ?_) (some 21) rfl rfl (by kernel_rfl) (fun _ _ _ h => h) (Or.inl ⟨by rfl, ?_⟩) (by assumption) ?_
  rotate_left
  · (intro w hSw; obtain ⟨e0, e1, e2⟩ := HK _ hSw; go_simp; all_goals with_reducible rfl)
  try simp only [Act.put, List.setIfInBounds_toArray, List.set_cons_zero, List.set_cons_succ]
  refine anyH_one (i := 12) (by kernel_rfl) rfl (fun K hK => ?_)
  go_simp
  refine hK.out _ _ ((hBw1.alloc hBw1.size _).alloc (by have := hBw1.size; simp; omega) _) (fun hHeld => ?_)
  clear hK K
  try simp only [Act.put, List.setIfInBounds_toArray, List.set_cons_zero, List.set_cons_succ]
  refine anyH_take (i := 13) (v := ?_) (some 3) rfl rfl (by kernel_rfl) (fun _ _ _ h => h) (Or.inl ⟨by rfl, ?_⟩) (by assumption) ?_
  rotate_left
  · (intro w hSw; obtain ⟨e0, e1, e2⟩ := HK _ hSw; go_simp; all_goals with_reducible rfl)
  try simp only [Act.put, List.setIfInBounds_toArray, List.set_cons_zero, List.set_cons_succ]
  refine wpAnyH_done (by kernel_rfl) ?_ _
  obtain ⟨l1, l2, l3⟩ := hs1.lts
  have l0 := hBw1.size
  have hC1' : w.heap.size ≤ C := hC1
  have hH1' : w.heap.size ≤ H := hH1
  have b2 : But [] w1 ((w1.alloc (.map #[] 0)).alloc (.cells #[.pointer (some ⟨C, 0, none⟩), .map (some w1.heap.size)] 67)) := ((But.refl [] w1).alloc _).alloc _
  have hTP : TP ((w1.alloc (.map #[] 0)).alloc (.cells #[.pointer (some ⟨C, 0, none⟩), .map (some w1.heap.size)] 67)) (w1.heap.size + 1) C H w1.heap.size N (fun _ => 0) σ.ag σ.tk [] := by
    refine ⟨?_, hs1.keep b2, (PM.made w1).but ((But.refl [] _).alloc _) (by simp), fun a ha => by simp at ha, ?_, List.Pairwise.nil⟩
    · have := heap_alloc_new (w1.alloc (.map #[] 0)) (.cells #[.pointer (some ⟨C, 0, none⟩), .map (some w1.heap.size)] 67)
      rw [World.size_alloc] at this
      exact this
    · simp [bT]
      omega
  have hB2 : Below w.heap.size w ((w1.alloc (.map #[] 0)).alloc (.cells #[.pointer (some ⟨C, 0, none⟩), .map (some w1.heap.size)] 67)) := hBw1.trans (b2.below l0 (by simp))
  have hsz2 : ((w1.alloc (.map #[] 0)).alloc (.cells #[.pointer (some ⟨C, 0, none⟩), .map (some w1.heap.size)] 67)).heap.size = w1.heap.size + 2 := by simp
  have hx0 : ∀ x ∈ bT (w1.heap.size + 1) C H w1.heap.size (fun _ => 0) [], w.heap.size ≤ x ∧ x ≠ w1.heap.size + 2 := fun x hx => by
    simp [bT] at hx
    omega
  clear hHeld hBw1 hmh hs1 hC1 hH1 hB1 b2 l1 l2 l3 hC1' hH1'
  generalize ((w1.alloc (.map #[] 0)).alloc (.cells #[.pointer (some ⟨C, 0, none⟩), .map (some w1.heap.size)] 67)) = w2 at *
  generalize hM1 : w1.heap.size = M1 at *
  clear hM1
  have HR : Hid (w2.heap.size = M1 + 2) := hsz2
  clear hsz2
  have hcB := (HK w2 hB2).2.1
  have hpm := (hm.below hB2).m
  go_wp2_with (first
    | (at_range; refine wpList_rangeP _ rfl _ rfl M _ _ rfl hpm ?_; intro w4 hrg0 hb0 hs0)
    | go_in)
  go_frame
  have HM : Hid (M < w.heap.size) := hm.m.lt
  have hTP4 := hTP.but hb0 (by simp [Disj])
  have hB4 : Below w.heap.size w w4 := hB2.trans (hb0.below hB2.size (by simp))
  clear hTP hcB hpm hb0 hs0 hM HK
  go_loopw [4, 5, 6] (fun _ _ _ wr => ∃ (left : Int → Bool) (cnt : Nat) (pb' : Int → Nat) (ys : List Ac), RG wr M w2.heap.size σ.xs.length (fB pb σ.xs) left cnt ∧ TP wr (M1 + 1) C H M1 N pb' σ.ag σ.tk ys ∧ (∀ a, a ∈ ys ↔ a ∈ σ.xs ∧ left a.id = false) ∧ Below w.heap.size w wr ∧ (∀ x ∈ bT (M1 + 1) C H M1 pb' ys, w.heap.size ≤ x ∧ x ≠ M1 + 2) ∧ ys.length + cnt ≤ σ.xs.length) (fun _ _ _ wr => wr.rangeLeft M w2.heap.size)
  case atStart =>
    refine ⟨_, _, _, [], hrg0, hTP4, fun a => ⟨fun h => by simp at h, fun h => ?_⟩, hB4, hx0, by simp⟩
    have h2 : (fB pb σ.xs a.id).isSome = false := h.2
    rw [fB_some hm.ok h.1] at h2
    cases h2
  case round =>
    clear hrg0 hTP4 hB4 hx0
    obtain ⟨left, cnt, pb', ys, hrg, htp, hys, hB, hxs, hcn⟩ := hrel
    have HY := Hid.mk hys
    have HX := Hid.mk hxs
    clear hys hxs
    go_wp2_with (first
      | (at_next; refine wpList_nextP _ rfl _ rfl M w2.heap.size _ _ _ _ rfl hrg ?_ ?_)
      | go_in)
    · intro hdone
      have HE : Hid (ys = σ.xs) := eq_of_mem_srt htp.srt hm.ok.srt fun a => ⟨fun h => ((HY.out a).1 h).1, fun h => (HY.out a).2 ⟨h, hdone a.id _ (fB_some hm.ok h)⟩⟩
      clear hdone
      go_wp2_with fail
      go_ret
      obtain rfl := HE.out
      exact ⟨M1 + 1, _, rfl, ⟨C, H, M1, pb', rfl, ⟨htp.b, htp.s, htp.m, htp.a, htp.nd, hm.ok⟩⟩, .of_below hB, fun x hx => .inr (HX.out x hx).1⟩
    · intro i b w5 cnt1 hf hl hrg1 hlt hb1 hs1 hen
      obtain ⟨a, ha, rfl, rfl⟩ := fB_inv hf
      have hB5 : Below w.heap.size w w5 := hB.trans (hb1.below hB.size (by simpa using hB2.size))
      have htp5 := htp.but hb1 (fun x hx => by
        have := (HX.out x hx).2
        have := HR.out
        simp
        omega)
      obtain ⟨d0, d1, d2, d3, d4, d5, d6, d7, d8, d9, d10, d11, d12, d13, d14, d15⟩ := (show At16 w5 (pb a.id) 0 a from ((hm.a a ha).below hB5).range).cells
      have b6 : But [] w5 (w5.alloc (.cells (acA a) 44)) := (But.refl [] w5).alloc _
      have htp6 := htp5.but b6 (by simp [Disj])
      have cB : (w5.alloc (.cells (acA a) 44)).cell? ⟨M1 + 1, 1, none⟩ = some (.map (some M1)) := by simp [World.cell?, htp6.b]
      have hpm6 := htp6.m
      have hno : Hid (∀ b ∈ ys, b.id ≠ a.id) := fun b hb e => by
        have := ((HY.out b).1 hb).2
        rw [e, hl] at this
        cases this
      have hfn : fB pb' ys a.id = none := by unfold fB; rw [fnd_not hno.out]; rfl
      have hi : In64 a.id := by
        have := hm.ok.idr ha
        exact ⟨by omega, by omega⟩
      have hln : ys.length < maxLen := by unfold maxLen; omega
      have hB6 : Below w.heap.size w (w5.alloc (.cells (acA a) 44)) := hB5.alloc hB5.size _
      have hrg6 := hrg1.but b6 (by simp) (by simp)
      have HN : Hid (∀ w7, PM w7 M1 (ys.length + 1) (fun j => if j = a.id then some w5.heap.size else fB pb' ys j) → But [M1] (w5.alloc (.cells (acA a) 44)) w7 → ∃ pb2, RG w7 M w2.heap.size σ.xs.length (fB pb σ.xs) (fun j => left j && !(j == a.id)) cnt1 ∧ TP w7 (M1 + 1) C H M1 N pb2 σ.ag σ.tk (insA a ys) ∧ (∀ c, c ∈ insA a ys ↔ c ∈ σ.xs ∧ (left c.id && !(c.id == a.id)) = false) ∧ Below w.heap.size w w7 ∧ (∀ x ∈ bT (M1 + 1) C H M1 pb2 (insA a ys), w.heap.size ≤ x ∧ x ≠ M1 + 2) ∧ (insA a ys).length + cnt1 ≤ σ.xs.length) := fun w7 k1 k2 => by
        obtain ⟨pb2, q1, q2⟩ := htp5.add hno.out k1 k2
        have hm1 := (HX.out M1 (by simp [bT])).1
        have h5 : w2.heap.size ≤ w5.heap.size := by
          have := hrg1.lt.1
          omega
        refine ⟨pb2, hrg6.but k2 (by have := HM.out; simp; omega) (by have := HR.out; simp; omega), q1, fun c => ?_, hB6.trans (k2.below hB6.size (by simpa using hm1)), fun x hx => ?_, ?_⟩
        · rw [mem_insA htp.srt]
          constructor
          · rintro (rfl | ⟨h1, h2⟩)
            · exact ⟨ha, by simp⟩
            · obtain ⟨h3, h4⟩ := (HY.out c).1 h1
              exact ⟨h3, by simp [h4]⟩
          · rintro ⟨h1, h2⟩
            rcases left_or hm.ok.srt ha h1 h2 with rfl | h3
            · exact .inl rfl
            · exact .inr ⟨(HY.out c).2 ⟨h1, h3⟩, fun e => by rw [e, hl] at h3; cases h3⟩
        · rcases q2 x hx with hx | rfl
          · exact HX.out x hx
          · have := hrg1.lt.1
            have := HR.out
            exact ⟨hB5.size, by omega⟩
        · rw [len_insA htp.srt hno.out]
          omega
      clear hf hb1 hs1 hl htp5 htp6 b6 hB6 hrg6 ha
      unfold acA at *
      go_wp2_with (first
        | (at_mapUpdate; refine wpList_storeP _ rfl _ _ _ rfl M1 _ _ rfl hpm6 a.id w5.heap.size rfl rfl hi hfn hln ?_; intro w7 hm7 hb7; obtain ⟨pb2, y1, y2, y3, y4, y5, y6⟩ := HN.out w7 hm7 hb7; go_frame)
        | go_in)
      go_roundw
      case rel => exact ⟨_, cnt1, pb2, insA a ys, y1, y2, y3, y4, y5, y6⟩
      case measure =>
        rw [y1.left_eq, hrg.left_eq]
        exact hlt
end
end Go.Proofs.YtjgclehghnmhnaaDoor
