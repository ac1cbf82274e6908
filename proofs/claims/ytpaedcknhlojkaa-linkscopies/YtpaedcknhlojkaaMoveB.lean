/- Contract of Move, where it moves. -/
import Derived.Test.YtpaedcknhlojkaaMove
namespace Go.Proofs.Ytpaedcknhlojkaa
open Go.RowKit Go.Shelf
attribute [local go_sem] Oper.semAt_some

/-- No cells turn but those of S. -/
def KM (S : List Nat) (A B : World) : Prop := ∀ b o, b ∉ S → A.heap[b]? = some o → o.isCells = true → B.heap[b]? = some o
theorem km_t {S : List Nat} {A B C : World} (h : KM S A B) (k : KM S B C) : KM S A C := fun b o h1 h2 h3 => k b o h1 (h b o h1 h2 h3) h3
theorem km_b {S : List Nat} {w : World} (W : World) (l : Nat) (o o' : Obj) (_ : w.heap.size ≤ l) (h : W.heap[l]? = some o) (hc : o.isCells = false) (_ : o.isWalk = false) : KM S W (W.putObj l o') := by
  intro b p h1 h3 h4
  have hbl : b ≠ l := by rintro rfl; rw [h] at h3; cases h3; rw [hc] at h4; cases h4
  exact (World.putObj_heap_other hbl).trans h3
theorem But.km {S : List Nat} {A B : World} (h : But S A B) : KM S A B := fun b _ h1 h2 _ => (h.block b (Array.getElem?_eq_some_iff.1 h2).1 h1).trans h2
theorem But.keepsFrom {S : List Nat} {A B : World} {n : Nat} (h : But S A B) (hS : ∀ x ∈ S, x < n) : KeepsFrom n A B :=
  ⟨h.size, fun k o hk ho _ => (h.block k (Array.getElem?_eq_some_iff.1 ho).1 (fun e => by have := hS k e; omega)).trans ho⟩

theorem grown_but {A B : World} {row : Option Nat} (h : A.grownBy B row) : But row.toList A B :=
  ⟨h.os, h.tape, h.output, h.size, fun k hk hn => h.block k hk (fun e => hn (by rw [← e]; simp))⟩

/-- A row of things that have come. -/
abbrev In (q : List Nat) : Type := { x : Nat // x ∈ q }
def vals {q : List Nat} (l : List (In q)) : List Nat := l.map (fun x => x.1)

section
variable {w : World} {P : Pl} {N L : Nat} {ls : List (List Nat)}

theorem P_S {P : Pl} {k : Nat} (h : k ∈ P.S) : k ∈ [P.B, P.n, P.p, P.w, P.c] := by
  simp [Pl.S] at h
  simp
  omega

set_option maxRecDepth 100000 in
set_option maxHeartbeats 4000000 in
theorem move_in (h : LQ w P N L ls) (a b : Nat) (ha : a < L) (hb : b < L) (hab : a ≠ b) :
    CallsIn Fence.wide 5 Try.prog 20 #[.pointer (some ⟨P.B, 0, none⟩), .int .i64 a, .int .i64 b] w fun e w' => e = .returned (.tuple #[.int .i64 (lsI ls (a : Int)).length, .int .i64 0]) ∧ LQ w' P N L ((lsI ls (a : Int)).foldl (stepM b) ls) ∧ But P.S w w' := by
  have hmz : moveE L a b = 0 := by unfold moveE; rw [inN_of ha, inN_of hb]; simp; omega
  have hB : But [] w (((w.alloc (.cells #[.pointer (some ⟨P.B, 0, none⟩)] 27)).alloc (.cells #[.int .i64 a] 3)).alloc (.cells #[.int .i64 b] 3)) := (((But.refl [] w).alloc _).alloc _).alloc _
  obtain ⟨x0, x1, x2⟩ := box_three w 27 3 3 (.pointer (some ⟨P.B, 0, none⟩)) (.int .i64 a) (.int .i64 b)
  have h' := h.keep hB
  have hlt5 : ∀ k ∈ [P.B, P.n, P.p, P.w, P.c], k < w.heap.size := fun k hk => h.lt5 hk
  have H1 : ∀ W, LQ W P N L ls → Calls Try.prog 33 #[.pointer (some ⟨P.B, 0, none⟩), .int .i64 a] W fun e w' => e = .returned (.bool true) ∧ w' = W := fun W ⟨_, _, hm, _⟩ => inN_of ha ▸ hasList_any hm a
  have H2 : ∀ W, LQ W P N L ls → Calls Try.prog 33 #[.pointer (some ⟨P.B, 0, none⟩), .int .i64 b] W fun e w' => e = .returned (.bool true) ∧ w' = W := fun W ⟨_, _, hm, _⟩ => inN_of hb ▸ hasList_any hm b
  have HA : ∀ W, LQ W P N L ls → W.cell? ⟨w.heap.size + 1, 0, none⟩ = some (.int .i64 a) → W.cell? ⟨w.heap.size + 1 + 1, 0, none⟩ = some (.int .i64 b) → Calls Try.prog 38 #[.pointer (some ⟨P.B, 0, none⟩), .bool true, .func (.func 39) #[] #[.pointer (some ⟨w.heap.size + 1, 0, none⟩), .pointer (some ⟨w.heap.size + 1 + 1, 0, none⟩)]] W fun e w' => e = .returned (.int .i64 0) ∧ Drawn W w' := fun W h p q => by
    have := askMove_any h a b _ _ p q
    rw [hmz, inN_of ha, inN_of hb] at this
    exact this
  have hg := h.ok.at ha
  have HX : ∀ W, LQ W P N L ls → W.cell? ⟨P.c, a, none⟩ = some (.int .i64 (lsI ls (a : Int)).length) ∧ W.cell? ⟨P.B, 3, none⟩ = some (.slice (some ⟨P.c, 0, none⟩) L P.k4) := fun W ⟨nx, pv, hm, hR⟩ => ⟨hm.xc (ctL_get hg), hm.c3⟩
  have ha' : (a : Int) < (L : Int) := by omega
  have ha0 : (0 : Int) ≤ (a : Int) := by omega
  have hst : Stand (lsI ls (a : Int)) ls := fun x hx => ⟨a, _, hg, hx⟩
  have hle := h.ok.short hg
  have hsz := h.sizes
  clear hmz
  refine callsIn_of_wp_marks Try.func20 rfl trivial ?_ rfl
  simp only [Try.ntmps20, List.size_toArray, List.length_cons, List.length_nil, Nat.reduceAdd, Nat.reduceSub, Array.replicate_succ, Array.replicate_zero, List.push_toArray, List.append_toArray, List.nil_append, List.cons_append]
  refine wpIn_wide.2 ?_
  go_wp2_with fail
  generalize (((w.alloc (.cells #[.pointer (some ⟨P.B, 0, none⟩)] 27)).alloc (.cells #[.int .i64 (a : Int)] 3)).alloc (.cells #[.int .i64 (b : Int)] 3)) = W0 at *
  have G1 := fun n => H1 (W0.drewN n) (h'.drawn ⟨n, rfl⟩)
  have G2 := fun n => H2 (W0.drewN n) (h'.drawn ⟨n, rfl⟩)
  go_quiet (first
    | (go_at_call 33; first | (with_reducible exact Calls.quiet_of_same (G1 _)) | (with_reducible exact Calls.quiet_of_same (G2 _)))
    | (go_at_call 38; exact Calls.quiet_of (HA _ (h'.drawn ⟨_, rfl⟩) x1 x2)))
  have h1 := h'.drawn ⟨nq, rfl⟩
  have hB1 := hB.drewN nq
  have z0 : (W0.drewN nq).cell? ⟨w.heap.size, 0, none⟩ = some (.pointer (some ⟨P.B, 0, none⟩)) := x0
  have z1 : (W0.drewN nq).cell? ⟨w.heap.size + 1, 0, none⟩ = some (.int .i64 (a : Int)) := x1
  have z2 : (W0.drewN nq).cell? ⟨w.heap.size + 1 + 1, 0, none⟩ = some (.int .i64 (b : Int)) := x2
  clear x0 x1 x2 h' hB G1 G2 H1 H2 HA
  generalize W0.drewN nq = W1 at h1 hB1 z0 z1 z2 ⊢
  clear W0
  obtain ⟨y0, y1⟩ := HX _ h1
  clear HX
  go_wp2_with fail
  go_quiet (fail)
  have h2 := h1.drawn ⟨nq, rfl⟩
  have hB2 := hB1.drewN nq
  have u0 : (W1.drewN nq).cell? ⟨w.heap.size, 0, none⟩ = some (.pointer (some ⟨P.B, 0, none⟩)) := z0
  have u1 : (W1.drewN nq).cell? ⟨w.heap.size + 1, 0, none⟩ = some (.int .i64 (a : Int)) := z1
  have u2 : (W1.drewN nq).cell? ⟨w.heap.size + 1 + 1, 0, none⟩ = some (.int .i64 (b : Int)) := z2
  clear z0 z1 z2 h1 hB1 y0 y1
  generalize W1.drewN nq = W2 at h2 hB2 u0 u1 u2 ⊢
  clear W1
  go_wp2_with (first
    | (go_at_call 35; refine (all_any _ _ _).mono ?_; rintro e w' ⟨rfl, rfl⟩))
  have hB3 : But [] W2 ((W2.alloc (.cells #[.pointer (some ⟨P.B, 0, none⟩)] 27)).alloc (.cells #[.int .i64 (a : Int)] 3)) := ((But.refl [] W2).alloc _).alloc _
  obtain ⟨v0, v1⟩ := box_two W2 27 3 (.pointer (some ⟨P.B, 0, none⟩)) (.int .i64 (a : Int))
  have h3 := h2.keep hB3
  have t0 := hB3.cell u0
  have t2 := hB3.cell u2
  have hB4 : But P.S w ((W2.alloc (.cells #[.pointer (some ⟨P.B, 0, none⟩)] 27)).alloc (.cells #[.int .i64 (a : Int)] 3)) := (hB2.trans hB3).wide
  have hs3 : w.heap.size + 3 ≤ ((W2.alloc (.cells #[.pointer (some ⟨P.B, 0, none⟩)] 27)).alloc (.cells #[.int .i64 (a : Int)] 3)).heap.size := by
    have := World.block_lt_of_cell? _ _ t2
    simp at this ⊢
    omega
  clear hB3 u0 u1 u2 h2 hB2
  generalize ((W2.alloc (.cells #[.pointer (some ⟨P.B, 0, none⟩)] 27)).alloc (.cells #[.int .i64 (a : Int)] 3)) = W3 at *
  obtain ⟨q, hq⟩ : ∃ q, q = lsI ls (a : Int) := ⟨_, rfl⟩
  have hsrc := h3.src (a : Int)
  rw [← hq] at hst hsrc hle ⊢
  have hat : q.attach.map (fun x : In q => x.1) = q := by simp
  refine wpIn_wide (n := 5) |>.1 ?_
  refine wpIn_rangeFunc_ownG rfl (by omega) (gf := 47) (lb := #[.pointer (some ⟨W2.heap.size, 0, none⟩), .pointer (some ⟨W2.heap.size + 1, 0, none⟩)]) rfl trivial (enters_of Try.func47 (by kernel_rfl) rfl)
    (all_stops (fun x : In q => x.1) (5 - 1) (by omega) W2.heap.size (W2.heap.size + 1) (.pointer (some ⟨P.B, 0, none⟩)) (a : Int) q.attach W3 (by rw [hat]; exact hsrc) v0 v1 (KM P.S) (fun _ T => T ∉ P.S)
      (fun W T hW hT hm => by have := hlt5 T (P_S hm); omega)
      (fun A B T vs hk s1 ⟨cur, e1, e2⟩ => ⟨⟨cur, hk T _ s1 e1 rfl, e2⟩, s1⟩)) km_t (km_b (w := W3)) (Below.refl _ _) (fun _ => rfl)
    (fun pre W => LQ W P N L ((vals pre).foldl (stepM b) ls) ∧ But P.S w W ∧ W.cell? ⟨w.heap.size, 0, none⟩ = some (.pointer (some ⟨P.B, 0, none⟩)) ∧ W.cell? ⟨w.heap.size + 1 + 1, 0, none⟩ = some (.int .i64 (b : Int)))
    (fun c pre W => False)
    (fun pre A B row ⟨q1, q2, q3, q4⟩ hg hr => by
      have hn : ∀ k, k < W3.heap.size → k ∉ row.toList := fun k hk hm => by
        cases row with
        | none => simp at hm
        | some r => simp at hm; have := (hr r rfl).1; omega
      have hb := grown_but hg
      refine ⟨q1.but hb (fun k hk => hn k (by have := hlt5 k hk; omega)), ⟨hb.os.trans q2.os, hb.tape.trans q2.tape, hb.output.trans q2.output, Nat.le_trans q2.size hb.size, fun k hk hs => (hb.block k (Nat.lt_of_lt_of_le hk q2.size) (hn k (by omega))).trans (q2.block k hk hs)⟩, hb.cell' q3 (hn _ (by simp; omega)), hb.cell' q4 (hn _ (by simp; omega))⟩)
    (fun c _ _ _ _ hs _ _ => hs)
    ⟨h3, hB4, t0, t2⟩ ?a1 ?assign ?body ?done ?stop
  case assign =>
    intro l x W K hK
    gi_wp2
    exact hK
  case body =>
    rintro l pre ⟨x, hx⟩ W ⟨hL, hBw, d0, d2⟩ hlt
    have hS := foldM_stand (q := q) (b := b) (vals pre) ls (by rw [h.ok.len]; exact hb) hst
    have hv : vals (pre ++ [⟨x, hx⟩]) = vals pre ++ [x] := by simp [vals]
    have hfold : (vals (pre ++ [⟨x, hx⟩])).foldl (stepM b) ls = stepM b ((vals pre).foldl (stepM b) ls) x := by rw [hv, List.foldl_append]; rfl
    have HF : Hid ((vals (pre ++ [⟨x, hx⟩])).foldl (stepM b) ls = stepM b ((vals pre).foldl (stepM b) ls) x) := hfold
    clear hfold
    generalize (vals pre).foldl (stepM b) ls = S at *
    obtain ⟨i, r, hr, hm⟩ := hS x hx
    obtain ⟨p1, p2, rfl⟩ := List.append_of_mem hm
    have ho := hL.ok
    have hxN := ho.lt i _ hr x (by simp)
    have e1 := outL_at ho hr
    have TK := take_any hL hr
    rw [← e1] at TK
    have hno : ∀ (j : Nat) (q : List Nat), (outL S x)[j]? = some q → x ∉ q := by
      intro j r hj
      unfold outL at hj
      rw [List.getElem?_map] at hj
      obtain ⟨r', _, rfl⟩ := Option.map_eq_some_iff.1 hj
      simp
    have hob : (outL S x)[b]? = some (lsI (outL S x) (b : Int) ++ []) := by
      have hl : b < (outL S x).length := by simp [outL, ho.len, hb]
      rw [List.append_nil, lsI_nat, List.getD_eq_getElem?_getD, List.getElem?_eq_getElem hl]
      rfl
    have HP : ∀ W, LQ W P N L (outL S x) → _ := fun W h => put_any (w := W) (P := P) (pre := lsI (outL S x) (b : Int)) (post := []) h hob hxN hno
    have HX : ∀ W, LQ W P N L (outL S x) → W.cell? ⟨P.p, N + b, none⟩ = some (.int .i64 (lastN (N + b) (lsI (outL S x) (b : Int)))) ∧ W.cell? ⟨P.B, 1, none⟩ = some (.slice (some ⟨P.p, 0, none⟩) (N + L) P.k2) := fun W ⟨nx, pv, hm, hR⟩ => ⟨hm.xp (hR.lk b _ hob).split.2, hm.c1⟩
    have HE : ∀ W, LQ W P N L (outL S x) → Calls Try.prog 26 #[.pointer (some ⟨P.B, 0, none⟩), .int .i64 b] W fun e w' => e = .returned (.int .i64 ((N + b : Nat) : Int)) ∧ w' = W := fun W ⟨nx, pv, hm, hR⟩ => end_any hm b (by have := hm.l2; omega)
    change ∀ W, LQ W P N L (outL S x) → Calls Try.prog 37 _ W (fun e w' => e = .returned (.tuple #[]) ∧ LQ w' P N L (stepM b S x) ∧ But P.S W w') at HP
    generalize lastN (N + b) (lsI (outL S x) (b : Int)) = pl at *
    have hNa : ((N + b : Nat) : Int) < (N : Int) + (L : Int) := by omega
    have hN0 : (0 : Int) ≤ ((N + b : Nat) : Int) := by omega
    generalize N + b = na at *
    generalize stepM b S x = S2 at *
    generalize outL S x = S1 at *
    have hmx : Try.prog.follows .mixedOrders = true := by kernel_rfl
    have hPS : ∀ y ∈ P.S, y < w.heap.size := fun y hy => hlt5 y (P_S hy)
    clear hr hm hob hno e1 hv hS
    dsimp only
    gi_wp2_with (first
      | (refine ⟨trivial, ?_⟩; gi_at_call 40; refine (CallsIn.inRound l (callsIn_wide.2 TK)).mono ?_; rintro e w2 ⟨rfl, k2, b2⟩))
    have e0 := b2.cell' d0 (fun hm => by have := hPS _ hm; simp at this)
    have e2 := b2.cell' d2 (fun hm => by have := hPS _ hm; simp at this; omega)
    obtain ⟨f0, f1⟩ := HX _ k2
    refine wpIn_region_quietL hmx (by kernel_rfl) (by kernel_rfl) rfl ?_
    show wpQuiet _ _ _ _ [_, _, _, _, _, _, _, _, _, _, _, _] _
    repeat (go_big_quiet_step ((go_at_call 26; exact Calls.quiet_of_same (HE _ (k2.drawn ⟨_, rfl⟩)))))
    refine wpQuiet_nil ?_
    rintro _ ⟨nq, rfl⟩
    gi_wp2_with (first
      | (refine ⟨trivial, ?_⟩; gi_at_call 37; refine (CallsIn.inRound l (callsIn_wide.2 (HP _ (k2.drawn ⟨nq, rfl⟩)))).mono ?_; rintro e w3 ⟨rfl, k3, b3⟩))
    have bb := (b2.drewN nq).trans b3
    exact ⟨bb.keepsFrom (fun y hy => by have := hPS y hy; omega), bb.km, (by rw [HF.out]; exact k3), hBw.trans bb, bb.cell' d0 (fun hm => by have := hPS _ hm; simp at this), bb.cell' d2 (fun hm => by have := hPS _ hm; simp at this; omega)⟩
  case done =>
    rintro D ys W hD rfl ⟨hL, hBw, _, _⟩ hK
    have hv : vals q.attach = q := by unfold vals; exact hat
    rw [hv] at hL
    go_wp2_with fail
    refine ⟨by simp, .inl ⟨_, _, rfl, run_takeDeferred hK, ?_⟩⟩
    have hb := grown_but (grownBy_putObj' W D (.deferred none))
    have hn : ∀ k, k < w.heap.size → k ∉ (some D).toList := fun k hk hm => by simp at hm; omega
    refine ⟨.tuple #[.int .i64 q.length, .int .i64 0], by simp [results, Try.f20, go_sem, hq], by rw [hq], ?_, ?_⟩
    · rw [← hq]
      exact hL.but hb (fun k hk => hn k (hlt5 k hk))
    · exact ⟨hb.os.trans hBw.os, hb.tape.trans hBw.tape, hb.output.trans hBw.output, Nat.le_trans hBw.size hb.size, fun k hk hs => (hb.block k (Nat.lt_of_lt_of_le hk hBw.size) (hn k hk)).trans (hBw.block k hk hs)⟩
  case stop =>
    rintro D c pre W hD hpre h hK
    exact h.elim

theorem move_any (h : LQ w P N L ls) (a b : Int) :
    Calls Try.prog 20 #[.pointer (some ⟨P.B, 0, none⟩), .int .i64 a, .int .i64 b] w fun e w' => e = .returned (.tuple #[.int .i64 (moveV L ls a b), .int .i64 (moveE L a b)]) ∧ LQ w' P N L (moveS L ls a b) ∧ But P.S w w' := by
  unfold moveV moveS
  by_cases hz : moveE L a b = 0
  · rw [if_pos hz, if_pos hz, hz]
    obtain ⟨i, j, rfl, rfl, hi, hj, hij⟩ := moveE_zero hz
    refine ((callsIn_wide (n := 5)).1 (move_in h i j hi hj hij)).mono ?_
    rintro e w' ⟨rfl, hl, hb⟩
    rw [foldM_all hij _ _ ls h.ok (h.ok.at hi) (h.ok.at hj)] at hl
    exact ⟨rfl, by rw [Int.toNat_natCast, Int.toNat_natCast]; exact hl, hb⟩
  · rw [if_neg hz, if_neg hz]
    exact move_err h a b hz
end

end Go.Proofs.Ytpaedcknhlojkaa
