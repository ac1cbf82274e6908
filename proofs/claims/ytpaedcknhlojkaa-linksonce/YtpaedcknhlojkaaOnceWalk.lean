/- The walk of LinksOnce. -/
import Derived.Test.YtpaedcknhlojkaaActsWalk
import Derived.Test.YtpaedcknhlojkaaOnceM
namespace Go.Proofs.Ytpaedcknhlojkaa
open Go.RowKit
set_option linter.unusedSimpArgs false

/-- Links of 8 things and 4 lists, laid since. -/
structure On (w W : World) (P : Pl) (ls : List (List Nat)) : Prop where
  q : LQ W P 8 4 ls
  k : ∀ k ∈ [P.B, P.n, P.p, P.w, P.c], w.heap.size ≤ k
  b : Below w.heap.size w W
theorem On.grow {w W W' : World} {P : Pl} {ls : List (List Nat)} (h : On w W P ls) (hb : But [] W W') : On w W' P ls := ⟨h.q.keep hb, h.k, h.b.trans (hb.to_below.mono h.b.size)⟩
theorem On.set {w W W' : World} {P : Pl} {ls : List (List Nat)} {T : Nat} (h : On w W P ls) (hb : But [T] W W') (hT : ∀ k ∈ [P.B, P.n, P.p, P.w, P.c], k ≠ T) (hw : w.heap.size ≤ T) : On w W' P ls :=
  ⟨h.q.but hb (fun k hk hm => hT k hk (by simpa using hm)), h.k, h.b.trans (hb.below h.b.size (by simpa using hw))⟩
theorem On.two {w W W' : World} {P : Pl} {ls s : List (List Nat)} {lo M LB : Nat} (h : On w W P ls) (hb : Below W.heap.size W W') (r : RL W' lo M LB 8 4 s) (km : W.heap.size ≤ M) (kl : W.heap.size ≤ LB) : Two W' P lo M LB 8 4 ls s :=
  ⟨h.q.below hb, r, fun k hk => by have := h.q.lt5 hk; have := r.ml; omega⟩

theorem index39 (cs : Array Value) (k : Nat) (v : Value) (hk : k < 8) (h : cs[k]? = some v) (w : World) : (Instr.index 39 (.agg cs) (.int .i64 k)).run Try.prog w = .ok v w := by
  simp [Instr.index, asIntOf, run_underlying Try.underlying39, go_sem, hk, h]

set_option maxRecDepth 100000 in
set_option maxHeartbeats 4000000 in
theorem once_any (sa : Option Addr) (ca : Nat) (xs : List (Int × Int × Int)) (w : World) (ha : Acts w sa xs) :
    Calls Try.prog 4 #[.slice sa xs.length ca] w fun e w' => e = .returned (.bool true) ∧ Below w.heap.size w w' := by
  have hmx : Try.prog.follows .mixedOrders = true := by kernel_rfl
  by_cases hlen : 200 < xs.length
  · have hlen' : (200 : Int) < (xs.length : Int) := by omega
    go_enter Try.func4, Try.ntmps4
    go_wp2_with (first
      | (go_at_call 9; refine (new_some 8 4 (by decide) (by decide) (by decide) (by decide) _).mono ?_; rintro e w1 ⟨P, rfl, q1, k1, b1⟩)
      | (go_at_call 8; refine (lives_any _).mono ?_; rintro e w2 ⟨rfl, b2⟩))
    go_ret
    exact ⟨rfl, b1.trans (b2.mono b1.size)⟩
  · have hlen' : (xs.length : Int) ≤ 200 := by omega
    go_enter Try.func4, Try.ntmps4
    go_wp2_with (first
      | (go_at_call 9; refine (new_some 8 4 (by decide) (by decide) (by decide) (by decide) _).mono ?_; rintro e w1 ⟨P, rfl, q1, k1, b1⟩; have hO0 : On w w1 P (List.replicate 4 []) := ⟨q1, k1, b1⟩; clear q1 b1))
    go_loopw [30, 5] (fun v _ wr => ∃ (j : Nat) (ls : List (List Nat)), j ≤ xs.length ∧ v = .int .i64 j ∧ On w wr P ls) (fun v _ _ => 200 - (intOf v).toNat)
    case atStart => exact ⟨0, _, by omega, rfl, hO0⟩
    case round =>
      clear hO0
      obtain ⟨j, ls, hj, rfl, hO⟩ := hrel
      by_cases hlt : j < xs.length
      · obtain ⟨b, o, rfl, x0, x1, x2⟩ := ha.below hO.b j xs[j] (by simp)
        have hlt' : (j : Int) < (xs.length : Int) := by omega
        generalize xs[j] = x at x0 x1 x2
        obtain ⟨k, l, t⟩ := x
        dsimp only at x0 x1 x2
        have hO1 := hO.grow ((But.refl [] wr).alloc (.cells #[.int .i64 k, .int .i64 l, .int .i64 t] 25))
        have hA1 := ActAt.new wr k l t
        go_wp2_with fail
        generalize wr.alloc (.cells #[.int .i64 k, .int .i64 l, .int .i64 t] 25) = W1 at *
        have hO1d := hO1.grow (But.refl [] W1).drew
        have hA1d := hA1.keep (But.refl [] W1).drew
        clear hA1 hO1 x0 x1 x2
        refine wp_region_K 3 (fun w' => w'.cell? ⟨wr.heap.size, 0, none⟩ = some (.int .i64 k) ∧ w'.cell? ⟨wr.heap.size, 1, none⟩ = some (.int .i64 l) ∧ w'.cell? ⟨wr.heap.size, 2, none⟩ = some (.int .i64 t)) hmx (by kernel_rfl) hA1d (fun hHeld hdep => ?_)
        refine wpAnyK_take (i := 0) (v := ?_) (some 34) rfl rfl hdep (by kernel_rfl) (fun _ _ _ h => h) (Or.inl ⟨by rfl, ?_⟩) hA1d ?_
        rotate_left
        · (intro w hSw; go_simp; all_goals with_reducible rfl)
        try simp only [Act.put, List.setIfInBounds_toArray, List.set_cons_zero, List.set_cons_succ]
        refine wpAnyK_take (i := 2) (v := ?_) (some 36) rfl rfl hdep (by kernel_rfl) (fun _ _ _ h => h) (Or.inl ⟨by rfl, ?_⟩) hA1d ?_
        rotate_left
        · (intro w hSw; go_simp; all_goals with_reducible rfl)
        try simp only [Act.put, List.setIfInBounds_toArray, List.set_cons_zero, List.set_cons_succ]
        refine wpAnyK_one (i := 1) (by kernel_rfl) rfl (fun K hK => ?_)
        go_simp
        (go_at_call 10; refine (rnew_some 8 4 (by decide) (by decide) (by decide) (by decide) _).mono ?_; rintro e w2 ⟨lo, M, LB, rfl, r2, km, kl, b2⟩)
        have hA2 := hA1d.below b2
        refine hK.out _ _ (fun _ => hA2) ?_
        clear hK K
        try simp only [Act.put, List.setIfInBounds_toArray, List.set_cons_zero, List.set_cons_succ]
        refine wpAnyK_one (i := 3) (by kernel_rfl) rfl (fun K hK => ?_)
        go_simp
        (go_at_call 11; refine (act_any (hO1d.two b2 r2 km kl) k l t).mono ?_; rintro e w3 ⟨bb, rfl, -, p3, b3⟩)
        refine hK.out _ _ (fun h => absurd rfl h) ?_
        clear hK K
        try simp only [Act.put, List.setIfInBounds_toArray, List.set_cons_zero, List.set_cons_succ]
        refine wpAnyK_done (by kernel_rfl) ?_
        have hO2 : On w w3 P (actS 8 4 ls k l t) := by
          have s2 := hO1d.b.trans (b2.mono hO1d.b.size)
          have s1 := hO1d.b.size
          refine ⟨p3.q, hO1d.k, s2.trans (b3.below s2.size (fun x hx => ?_))⟩
          rcases List.mem_cons.1 hx with rfl | hx
          · exact Nat.le_trans s1 kl
          · exact hO1d.k x (P_S hx)
        generalize actS 8 4 ls k l t = s2 at hO2
        go_wp2_with fail
        go_roundw
        case rel => exact ⟨j + 1, s2, by omega, by simp, hO2⟩
        case measure =>
          simp [intOf]
          omega
      · obtain rfl : j = xs.length := by omega
        have hok := hO.q.ok
        have hT0 : ∀ k ∈ [P.B, P.n, P.p, P.w, P.c], k ≠ wr.heap.size := fun k hk => by have := hO.q.lt5 hk; omega
        have hTw : w.heap.size ≤ wr.heap.size := hO.b.size
        have hO1 := hO.grow ((But.refl [] wr).alloc (.cells #[.int .i64 0, .int .i64 0, .int .i64 0, .int .i64 0, .int .i64 0, .int .i64 0, .int .i64 0, .int .i64 0] 39))
        have hR1 : Row (wr.alloc (.cells #[.int .i64 0, .int .i64 0, .int .i64 0, .int .i64 0, .int .i64 0, .int .i64 0, .int .i64 0, .int .i64 0] 39)) wr.heap.size 39 ((tmL ls 0 []).map iv) := ⟨_, heap_alloc_new wr _, fun j v hv => by rw [tmL_zero] at hv; rw [← Array.getElem?_toList]; exact hv⟩
        clear hO
        go_wp2_with fail
        generalize wr.alloc (.cells #[.int .i64 0, .int .i64 0, .int .i64 0, .int .i64 0, .int .i64 0, .int .i64 0, .int .i64 0, .int .i64 0] 39) = W2 at *
        generalize wr.heap.size = T at *
        go_loopw [8, 6] (fun v n wr => ∃ i : Nat, i ≤ 4 ∧ v = .int .i64 i ∧ n = .int .i64 (sumL ls i : Nat) ∧ On w wr P ls ∧ Row wr T 39 ((tmL ls i []).map iv)) (fun v _ _ => 4 - (intOf v).toNat)
        case atStart => exact ⟨0, by omega, rfl, rfl, hO1, hR1⟩
        case round =>
          clear hO1 hR1
          obtain ⟨i, hi, rfl, rfl, hO2, hR2⟩ := hrel
          by_cases hi4 : i < 4
          · have hq := hok.at hi4
            have hs := sumL_next hq
            have hle := sumL_le hok (i := i + 1) (by omega)
            have hqN := hok.lt i _ hq
            have HN := tmL_next hok hq
            have HW : ∀ x ∈ lsI ls (i : Int), ∀ W, LQ W P 8 4 ls → Calls Try.prog 12 #[.pointer (some ⟨P.B, 0, none⟩), .int .i64 (x : Nat)] W fun e w' => e = .returned (.int .i64 (i : Nat)) ∧ w' = W := fun x hx W h => by
              have := where_any h (x : Int)
              rwa [wI_nat, whI_some hok hq hx] at this
            have H0 : ∀ (j : Nat) (hj : j < (lsI ls (i : Int)).length), tm ls i ((lsI ls (i : Int)).take j) (lsI ls (i : Int))[j] = 0 := fun j hj => tm_now hok hq hj
            have HS : ∀ (j : Nat) (hj : j < (lsI ls (i : Int)).length), (tmL ls i ((lsI ls (i : Int)).take j)).set (lsI ls (i : Int))[j] 1 = tmL ls i ((lsI ls (i : Int)).take (j + 1)) := fun j hj => tmL_set hj
            have hsr := hO2.q.src (i : Int)
            have LE : ∀ W, LQ W P 8 4 ls → _ := fun W h => len_any (w := W) (P := P) h (i : Int)
            generalize lsI ls (i : Int) = q at *
            have hi4' : (i : Int) < 4 := by omega
            have hql : q.length ≤ 8 := by omega
            have hTlt : T < wr.heap.size := hR2.lt
            have hsum : (sumL ls i : Int) ≤ 8 := by omega
            have Hs : Hid (sumL ls (i + 1) = sumL ls i + q.length) := hs
            clear hs hq hle
            generalize sumL ls i = n at *
            go_wp2_with (first
              | (go_at_call 16; refine (lall_sl hsr).mono ?_; rintro e w3 ⟨a3, c3, rfl, r3, b3⟩; have hO3 := hO2.grow (.of_below b3); have hR3 : Row w3 T 39 ((tmL ls i []).map iv) := hR2.put (b3.block T hTlt))
              | (go_at_call 14; refine (LE _ hO3.q).mono ?_; rintro e w' ⟨rfl, hw⟩; subst w'))
            generalize wr.heap.size = B3 at *
            go_loopw [65, 12] (fun v _ wr => ∃ j : Nat, j ≤ q.length ∧ v = .int .i64 j ∧ On w wr P ls ∧ Row wr T 39 ((tmL ls i (q.take j)).map iv) ∧ RowI wr B3 (.slice a3 q.length c3) (ints q)) (fun v _ _ => 8 - (intOf v).toNat)
            case atStart => exact ⟨0, by omega, rfl, hO3, hR3, r3⟩
            case round =>
              clear hO3 hR3 r3 hO2 hR2 hsr b3
              obtain ⟨j, hj, rfl, hO4, hR4, r4⟩ := hrel
              by_cases hjq : j < q.length
              · obtain ⟨g, rfl, cx⟩ := r4.at j (q[j] : Nat) (by rw [ints, List.getElem?_map, List.getElem?_eq_getElem hjq]; rfl)
                have hx8 := hqN q[j] (List.getElem_mem hjq)
                have HWx := HW q[j] (List.getElem_mem hjq)
                have h0 := H0 j hjq
                have hS := HS j hjq
                have ct : wr.cell? ⟨T, q[j], none⟩ = some (.int .i64 0) := hR4.cell (by
                  unfold tmL
                  rw [List.map_map, List.getElem?_map, List.getElem?_range hx8]
                  simp [h0, iv])
                have ft := hR4.fz q[j]
                have hR5 := hR4.set q[j] (iv 1)
                rw [← List.map_set, hS] at hR5
                unfold iv at hR5
                have hjq' : (j : Int) < (q.length : Int) := by omega
                clear h0 hS
                generalize q[j] = x at *
                have hx8' : (x : Int) < 8 := by omega
                have hx7 : (x : Int) ≤ 7 := by omega
                have hx0 : (0 : Int) ≤ (x : Int) := by omega
                go_wp2_with (first
                  | (go_at_call 12; refine (HWx _ hO4.q).mono ?_; rintro e w' ⟨rfl, hw⟩; subst w'))
                go_roundw
                case rel =>
                  have hbT : But [T] wr (wr.setCell ⟨T, x, none⟩ (.int .i64 1)) := (But.refl [T] wr).set (p := ⟨T, x, none⟩) (by simp) _
                  exact ⟨j + 1, by omega, by simp, hO4.set hbT hT0 hTw, hR5, r4.but hbT (by simpa using hTlt)⟩
                case measure =>
                  simp [intOf]
                  omega
              · obtain rfl : j = q.length := by omega
                rw [List.take_length, HN] at hR4
                clear r4 HN HS H0 HW LE
                go_wp2_with fail
                go_roundw
                case rel => exact ⟨i + 1, by omega, by simp, by rw [Hs.out]; simp, hO4, hR4⟩
                case measure =>
                  simp [intOf]
                  omega
          · have hz : ((i : Nat) : Int) = 4 := by omega
            rw [hz]
            clear hz
            obtain rfl : i = 4 := by omega
            have hle := sumL_le hok (i := 4) (by omega)
            obtain ⟨f, hf, hfc⟩ : ∃ f : Nat → Nat, (∀ t, (f t = 1 ∧ 0 ≤ whI ls t) ∨ (f t = 0 ∧ whI ls t = -1)) ∧ ∀ t, t < 8 → wr.cell? ⟨T, t, none⟩ = some (.int .i64 (f t : Nat)) := ⟨tm ls 4 [], tm_last hok, fun t ht => hR2.cell (by unfold tmL; rw [List.map_map, List.getElem?_map, List.getElem?_range ht]; rfl)⟩
            have c0 := hfc 0 (by omega)
            have c1 := hfc 1 (by omega)
            have c2 := hfc 2 (by omega)
            have c3 := hfc 3 (by omega)
            have c4 := hfc 4 (by omega)
            have c5 := hfc 5 (by omega)
            have c6 := hfc 6 (by omega)
            have c7 := hfc 7 (by omega)
            have HI : ∀ (j : Nat), j < 8 → ∀ W, (Instr.index 39 (.agg #[.int .i64 (f 0 : Nat), .int .i64 (f 1 : Nat), .int .i64 (f 2 : Nat), .int .i64 (f 3 : Nat), .int .i64 (f 4 : Nat), .int .i64 (f 5 : Nat), .int .i64 (f 6 : Nat), .int .i64 (f 7 : Nat)]) (.int .i64 (j : Nat))).run Try.prog W = .ok (.int .i64 (f j : Nat)) W := fun j hj W => index39 _ j _ hj (by
              match j, hj with
              | 0, _ => rfl
              | 1, _ => rfl
              | 2, _ => rfl
              | 3, _ => rfl
              | 4, _ => rfl
              | 5, _ => rfl
              | 6, _ => rfl
              | 7, _ => rfl) W
            have HI' : Aside (∀ (j : Nat), j < 8 → ∀ W, (Instr.index 39 (.agg #[.int .i64 (f 0 : Nat), .int .i64 (f 1 : Nat), .int .i64 (f 2 : Nat), .int .i64 (f 3 : Nat), .int .i64 (f 4 : Nat), .int .i64 (f 5 : Nat), .int .i64 (f 6 : Nat), .int .i64 (f 7 : Nat)]) (.int .i64 (j : Nat))).run Try.prog W = .ok (.int .i64 (f j : Nat)) W) := HI
            have hle' : (sumL ls 4 : Int) ≤ 8 := by omega
            clear HI hfc hR2
            generalize sumL ls 4 = n at *
            go_wp2_with fail
            go_loopw [89, 13, 14] (fun v _ _ W => ∃ j : Nat, j ≤ 8 ∧ v = .int .i64 j ∧ On w W P ls) (fun v _ _ _ => 8 - (intOf v).toNat)
            case atStart => exact ⟨0, by omega, rfl, hO2⟩
            case round =>
              clear hO2 c0 c1 c2 c3 c4 c5 c6 c7
              obtain ⟨j, hj, rfl, hO5⟩ := hrel
              by_cases hj8 : j < 8
              · have HJ := HI'.out j hj8
                have WH := where_any hO5.q (j : Int)
                rw [wI_nat] at WH
                have hj8' : (j : Int) < 8 := by omega
                rcases hf j with ⟨e1, e2⟩ | ⟨e1, e2⟩
                · rw [e1] at HJ
                  generalize whI ls j = y at *
                  clear hf e1
                  go_wp2_with (first
                    | (go_at_call 12; refine WH.mono ?_; rintro e w' ⟨rfl, hw⟩; subst w'))
                  go_roundw
                  case rel => exact ⟨j + 1, by omega, by simp, hO5⟩
                  case measure =>
                    simp [intOf]
                    omega
                · rw [e1] at HJ
                  rw [e2] at WH
                  clear hf e1 e2
                  go_wp2_with (first
                    | (go_at_call 12; refine WH.mono ?_; rintro e w' ⟨rfl, hw⟩; subst w'))
                  go_roundw
                  case rel => exact ⟨j + 1, by omega, by simp, hO5⟩
                  case measure =>
                    simp [intOf]
                    omega
              · obtain rfl : j = 8 := by omega
                go_wp2_with (first
                  | (go_at_call 8; refine (lives_any _).mono ?_; rintro e w6 ⟨rfl, b6⟩))
                go_ret
                exact ⟨rfl, hO5.b.trans (b6.mono hO5.b.size)⟩

end Go.Proofs.Ytpaedcknhlojkaa
