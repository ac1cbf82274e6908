/- New and Copy of the program's. -/
import Derived.Test.YtlnfabjgcecebaaGreatPqJ
namespace Go.Proofs.YtlnfabjgcecebaaGreat.Pq
open Go Go.RowKit Go.Proofs.YtlnfabjgcecebaaGreat.Str Go.Proofs.YtlnfabjgcecebaaGreat.Rd
open Go.Proofs.YtlnfabjgcecebaaGreat.Hp (Step Disj HQ)

theorem infoThr : (Tryz.prog.info? 53).map (fun i => (i.zero, i.size, i.bytes)) = some (some (.agg #[.int .i64 0, .int .i64 0, .int .i64 0, .int .i64 0]), 4, 32) := by kernel_rfl
theorem mk_thrs (n : Nat) (hn : n ≤ 4096) (W : World) : (Instr.makeSlice 37 (.int .i64 n) (.int .i64 n)).run Tryz.prog W = .ok (.slice (some ⟨W.heap.size, 0, none⟩) n n) (W.alloc (.cells (madeCells #[.int .i64 0, .int .i64 0, .int .i64 0, .int .i64 0] (n * 4)) 53)) := by
  obtain ⟨i0, hi, hz0, hz1, hz2⟩ := info_parts infoThr
  have h := run_make (P := Tryz.prog) W 37 53 i0 (.agg #[.int .i64 0, .int .i64 0, .int .i64 0, .int .i64 0]) Tryz.underlying37 hi hz0 .i64 .i64 n n (by omega) (Int.le_refl _) (by rw [hz2]; omega) (by omega)
  rw [hz1, Int.toNat_natCast] at h
  exact h
theorem new_none (a : Int) (w : World) (hm : a < 1 ∨ 4096 < a) : Calls Tryz.prog 4 #[.int .i64 a] w fun e w' => e = .returned (.pointer none) ∧ Below w.heap.size w w' := by
  have N := Hp.new_none a (by unfold Hp.inN; simp; omega) w
  go_enter Tryz.func4, Tryz.ntmps4
  go_wp2_with (first | (go_at_call 11; (with_reducible refine N.mono ?_); rintro e w1 ⟨rfl, hw⟩; subst w1))
  go_ret
  exact ⟨rfl, Below.refl _ _⟩
theorem new_some (N : Nat) (w : World) (h1 : 1 ≤ N) (h2 : N ≤ 4096) : Calls Tryz.prog 4 #[.int .i64 N] w fun e w' => ∃ B T, e = .returned (.pointer (some ⟨B, 0, none⟩)) ∧ PQ w' B T N ⟨0, List.replicate N z4⟩ ∧ Step [] w T w' := by
  have NN := Hp.new_some N h1 h2 w
  have hm := fun W => mk_thrs N h2 W
  go_enter Tryz.func4, Tryz.ntmps4
  go_wp2_with (first | (go_at_call 11; (with_reducible refine NN.mono ?_); rintro e w1 ⟨H, TH, rfl, q1, s1⟩))
  go_ret
  have l1 := s1.but.size
  have ba : Hp.But [] w1 ((w1.alloc (.cells (madeCells #[.int .i64 0, .int .i64 0, .int .i64 0, .int .i64 0] (N * 4)) 53)).alloc (.cells #[.slice (some ⟨w1.heap.size, 0, none⟩) N N, .pointer (some ⟨H, 0, none⟩), .int .i64 0] 39)) := ((Hp.But.refl [] w1).alloc _).alloc _
  have hG : Hp.Row (w1.alloc (.cells (madeCells #[.int .i64 0, .int .i64 0, .int .i64 0, .int .i64 0] (N * 4)) 53)) w1.heap.size 53 (flat4 (pL (List.replicate N z4))) := ⟨_, heap_alloc_new _ _, fun j v hv => by
    rw [pL_new, flat4_new, ← made4] at hv
    rw [← Array.getElem?_toList]
    exact hv⟩
  have hlt := q1.lt
  refine ⟨_, (w1.heap.size + 1) :: w1.heap.size :: TH, rfl, ⟨w1.heap.size, H, TH, rfl, ⟨⟨N, Nat.le_refl _, by unfold maxLen; omega, ?_⟩, hG.put (Below.heap_alloc _ _ _ (by simp)), ?_, by omega, fun e => by have := hlt _ e; omega, fun e => by have := hlt _ e; omega, by simp⟩⟩, s1.but.trans ba, fun x hx => .inr ?_⟩
  · have := heap_alloc_new (w1.alloc (.cells (madeCells #[.int .i64 0, .int .i64 0, .int .i64 0, .int .i64 0] (N * 4)) 53)) (.cells #[.slice (some ⟨w1.heap.size, 0, none⟩) N N, .pointer (some ⟨H, 0, none⟩), .int .i64 0] 39)
    rw [World.size_alloc] at this
    exact this
  · rw [qL_new]
    exact q1.keep ba
  · rcases List.mem_cons.1 hx with rfl | hx
    · omega
    · rcases List.mem_cons.1 hx with rfl | hx
      · omega
      · rcases s1.new x hx with e | e
        · cases e
        · exact e

theorem wpList_appR {w : World} {ops : Array Oper} {rest : List Oper} {o : Oper} {a : Act} {Q : Exit → Act → World → Prop} (hg : o.guard = none) (s x : Operand) (hop : o.op = Op.call { callee := Callee.builtin Builtin.append, args := #[s, x], argTypes := #[37, 37] })
    (B n : Nat) (v : Value) (xs : List Value) (hs : a.eval s = v) (hown : w.ownsRow B 53 4 v n xs) (sp : Option Addr) (m c : Nat) (ys : List Value) (hx : a.eval x = .slice sp m c) (hy : RwM w sp ys) (hyl : ys.length = m * 4) (h1 : ∀ u ∈ ys, u.oneCell' = true)
    (h63 : n + m ≤ 8192) (hb : B ≤ w.heap.size)
    (hK : ∀ v' w', w'.ownsRow B 53 4 v' (n + m) (xs ++ ys) → w.grownBy w' v.ownBlock → (v'.ownBlock = v.ownBlock ∨ v'.ownBlock = some w.heap.size) → wpList Tryz.prog ops Q rest (a.put o.dst v') w') :
    wpList Tryz.prog ops Q (o :: rest) a w := by
  refine wpList_plain hg fun K hK' => ?_
  obtain ⟨v', w', hrun, r1, r2, r3⟩ := run_own (ty := o.type) (c := c) Tryz.underlying37 infoThr rfl (by decide) hown hy hyl h1 (by unfold maxLen; omega) (by omega) hb
  unfold Oper.wp execOp
  simp only [hop, resolve, invoke, builtin, Sem.run_bind, Sem.run_pure, Result.andThen_ok, List.map_toArray, List.map_cons, List.map_nil, hs, hx, hrun]
  exact hK' _ _ (hK v' w' r1 r2 r3)
theorem eql_thr (a : Addr) (n c : Nat) (W : World) : Sem.run Tryz.prog (binOp .eql 37 (.slice (some a) n c) (.slice none 0 0)) W = .ok (.bool false) W := by kernel_rfl
theorem clone_thr {W : World} {G c N : Nat} {L : List Rw} (h : Hp.Row W G 53 (flat4 (pL L))) (hl : L.length = N) (h1 : 1 ≤ N) (h2 : N ≤ 4096) :
    Calls Tryz.prog 31 #[.slice (some ⟨G, 0, none⟩) N c] W fun e w' => ∃ g d, e = .returned (.slice (some ⟨g, 0, none⟩) N d) ∧ N ≤ d ∧ d ≤ maxLen ∧ Hp.Row w' g 53 (flat4 (pL L)) ∧ W.heap.size ≤ g ∧ Below W.heap.size W w' := by
  have OW : (W.alloc (.cells #[] 53)).ownsRow W.heap.size 53 4 (.slice (some ⟨W.heap.size, 0, none⟩) 0 0) 0 [] := World.ownsRow_lit (base := W.heap.size) (e := 53) (size := 4) W #[] 0 (Nat.le_refl _) (Nat.zero_le _) rfl
  have HR : RwM (W.alloc (.cells #[] 53)) (some ⟨G, 0, none⟩) (flat4 (pL L)) := fun j v hv => ⟨G, 0, rfl, by
    rw [Nat.zero_add]
    exact ((Hp.But.refl [] W).alloc _).cell (h.cell hv)⟩
  have eq := eql_thr ⟨G, 0, none⟩ N c
  go_enter Tryz.func31, Tryz.ntmps31
  go_wp2_with (first
    | (at_builtin; refine wpList_appR rfl _ _ rfl W.heap.size 0 _ [] rfl OW _ N c (flat4 (pL L)) rfl HR (by rw [flat4_len, pL_len, hl]) flat4_one (by omega) (by simp) ?_; intro v2 w2 ho2 hg2 hv2; have hb2 : Hp.But [] W w2 := ((Hp.But.refl [] W).alloc _).grown hg2 (fun k e => by cases e; exact Nat.le_refl _)))
  go_ret
  rw [List.nil_append, Nat.zero_add] at ho2
  obtain ⟨g, cap, rfl, hgX, hcap, hcm, hrow⟩ := own_row4 ho2 h1
  exact ⟨g, cap, rfl, hcap, hcm, hrow, hgX, hb2.to_below⟩
theorem three_on {W W' : World} (hb : Below W.heap.size W W') {a0 a1 a2 : Addr} {v0 v1 v2 : Value} (h : W.cell? a0 = some v0 ∧ W.cell? a1 = some v1 ∧ W.cell? a2 = some v2) : W'.cell? a0 = some v0 ∧ W'.cell? a1 = some v1 ∧ W'.cell? a2 = some v2 := ⟨Hp.cell_on hb h.1, Hp.cell_on hb h.2.1, Hp.cell_on hb h.2.2⟩
section
set_option maxRecDepth 100000
variable {w w' : World} {B G H N : Nat} {TH TH' : List Nat} {σ : Qs} {q q' : List Hp.Th}
set_option maxHeartbeats 2000000 in
theorem copy_any (h : QM w B G H TH N σ (qL σ)) :
    Calls Tryz.prog 8 #[.pointer (some ⟨B, 0, none⟩)] w fun e w' => ∃ B2 T2, e = .returned (.pointer (some ⟨B2, 0, none⟩)) ∧ PQ w' B2 T2 N σ ∧ Step [] w T2 w' := by
  have M := made_any h
  obtain ⟨c, -, -, c0⟩ := h.c0
  have c1 := h.c1
  have c2 := h.c2
  have hd := h.drew
  have hn1 := h.n1
  have hn2 := h.n2
  have hlen := h.len
  have CL : ∀ W, QM W B G H TH N σ (qL σ) → _ := fun W hW => clone_thr (c := c) hW.g hW.len hn1 hn2
  have CH : ∀ W, QM W B G H TH N σ (qL σ) → _ := fun W hW => Hp.copy_any hW.h
  have hFin : ∀ W g cap H2 TH2, N ≤ cap → cap ≤ maxLen → Hp.Row W g 53 (flat4 (pL σ.L)) → HQ W H2 TH2 N (qL σ) → g ∉ TH2 → QM (W.alloc (.cells #[.slice (some ⟨g, 0, none⟩) N cap, .pointer (some ⟨H2, 0, none⟩), .int .i64 σ.now] 39)) W.heap.size g H2 TH2 N σ (qL σ) := fun W g cap H2 TH2 e1 e2 e3 e4 e5 =>
    ⟨⟨cap, e1, e2, heap_alloc_new _ _⟩, e3.put (Below.heap_alloc _ _ _ e3.lt), e4.keep ((Hp.But.refl [] W).alloc _), by have := e3.lt; omega, fun e => by have := e4.lt _ e; omega, e5, hlen⟩
  generalize σ.now = now at *
  have hS : w.drew.cell? ⟨B, 0, none⟩ = some (.slice (some ⟨G, 0, none⟩) N c) ∧ w.drew.cell? ⟨B, 1, none⟩ = some (.pointer (some ⟨H, 0, none⟩)) ∧ w.drew.cell? ⟨B, 2, none⟩ = some (.int .i64 now) := ⟨c0, c1, c2⟩
  go_enter Tryz.func8, Tryz.ntmps8
  go_upto_region 3 with (first | (go_at_call 30; (with_reducible refine M.mono ?_); rintro e w1 ⟨rfl, hw⟩; subst w1))
  go_region_held3 (fun w' => w'.cell? ⟨B, 0, none⟩ = some (.slice (some ⟨G, 0, none⟩) N c) ∧ w'.cell? ⟨B, 1, none⟩ = some (.pointer (some ⟨H, 0, none⟩)) ∧ w'.cell? ⟨B, 2, none⟩ = some (.int .i64 now)) (first | with_reducible assumption | with_reducible exact hS | (with_reducible refine three_on ((Below.refl _ _).alloc (Nat.le_refl _) _) ?_; with_reducible assumption)) (first
    | (go_at_call 31; (with_reducible refine (CL _ hd).mono ?_); rintro e w2 ⟨g, d, rfl, e1, e2, r2, hg, b2⟩; have h2 := hd.below b2; have k2 : w2.cell? ⟨B, 0, none⟩ = some (.slice (some ⟨G, 0, none⟩) N c) ∧ w2.cell? ⟨B, 1, none⟩ = some (.pointer (some ⟨H, 0, none⟩)) ∧ w2.cell? ⟨B, 2, none⟩ = some (.int .i64 now) := ⟨Hp.cell_on b2 hS.1, Hp.cell_on b2 hS.2.1, Hp.cell_on b2 hS.2.2⟩)
    | (go_at_call 32; (with_reducible refine (CH _ h2).mono ?_); rintro e w3 ⟨H2, TH2, rfl, q3, s3⟩; have b3 := s3.but.to_below; have k3 : w3.cell? ⟨B, 0, none⟩ = some (.slice (some ⟨G, 0, none⟩) N c) ∧ w3.cell? ⟨B, 1, none⟩ = some (.pointer (some ⟨H, 0, none⟩)) ∧ w3.cell? ⟨B, 2, none⟩ = some (.int .i64 now) := ⟨Hp.cell_on b3 k2.1, Hp.cell_on b3 k2.2.1, Hp.cell_on b3 k2.2.2⟩))
  all_goals
    go_wp2_with fail
    go_ret
    have l2 := b2.size
    have l3 := b3.size
    have l0 : w.drew.heap.size = w.heap.size := rfl
    have hg3 : g < w2.heap.size := r2.lt
    have r3 := r2.put (b3.block g hg3)
    have hgT : g ∉ TH2 := fun e => by
      rcases s3.new g e with e | e
      · cases e
      · omega
    have hQ := hFin w3 g d H2 TH2 e1 e2 r3 q3 hgT
    have bb : Hp.But [] w (w3.alloc (.cells #[.slice (some ⟨g, 0, none⟩) N d, .pointer (some ⟨H2, 0, none⟩), .int .i64 now] 39)) := (((Hp.But.refl [] w).drew.trans (.of_below b2)).trans s3.but).alloc _
    refine ⟨_, _, rfl, ⟨_, _, _, rfl, hQ⟩, bb, fun x hx => .inr ?_⟩
    rcases List.mem_cons.1 hx with rfl | hx
    · omega
    · rcases List.mem_cons.1 hx with rfl | hx
      · omega
      · rcases s3.new x hx with e | e
        · cases e
        · omega
end
end Go.Proofs.YtlnfabjgcecebaaGreat.Pq
