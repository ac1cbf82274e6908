/- The walk of RingActs. -/
import Derived.Test.YtfobfkidpdlkeaaAct
import Derived.Test.YtfobfkidpdlkeaaOpens
import Derived.Deep.CutRange
import Derived.Deep.RegionHeld3
namespace Go.Proofs.Ytfobfkidpdlkeaa
open Go.RowKit

/-- A slice's numbers, from its block's first cell on. -/
def IntsR (w : World) (a : Option Addr) (xs : List Int) : Prop := ∀ j x, xs[j]? = some x → ∃ g, a = some ⟨g, 0, none⟩ ∧ w.cell? ⟨g, j, none⟩ = some (.int .i64 x)
theorem RowI.open' {w : World} {base : Nat} {v : Value} {q : List Int} (h : RowI w base v q) : ∃ a c, v = .slice a q.length c ∧ IntsR w a q := by
  obtain ⟨a, c, e, _, _, _, hx⟩ := h.shape
  exact ⟨a, c, e, hx⟩

set_option maxHeartbeats 1000000 in
theorem ints_any (a b : Option Addr) (c d : Nat) (xs : List Int) (w : World) (hn : xs.length ≤ 4096) (ha : IntsR w a xs) (hb : IntsR w b xs) :
    Calls Try.prog 16 #[.slice a xs.length c, .slice b xs.length d] w fun e w' => e = .returned (.bool true) ∧ Below w.heap.size w w' := by
  go_enter Try.func16, Try.ntmps16
  go_wp2_with fail
  go_loopw [13] (fun q wr => ∃ j : Nat, j ≤ xs.length ∧ q = .int .i64 j ∧ Drawn w wr) (fun q _ => 4096 - (intOf q).toNat)
  case atStart => exact ⟨0, by omega, rfl, Drawn.refl _⟩
  case round =>
    obtain ⟨j, hj, rfl, hB⟩ := hrel
    by_cases hlt : j < xs.length
    · obtain ⟨g1, rfl, hc1⟩ := ha j (xs[j]) (by simp)
      obtain ⟨g2, rfl, hc2⟩ := hb j (xs[j]) (by simp)
      generalize xs[j] = x at hc1 hc2
      replace hc1 := (Drawn.but (S := []) hB).cell hc1
      replace hc2 := (Drawn.but (S := []) hB).cell hc2
      have h1 : (j : Int) < (xs.length : Int) := by omega
      have h0 : (0 : Int) ≤ (j : Int) := by omega
      go_wp2_with fail
      go_quiet (fail)
      go_wp2_with fail
      go_roundw
      case rel => exact ⟨j + 1, by omega, by simp, hB.trans ⟨nq, rfl⟩⟩
      case measure =>
        simp [intOf]
        omega
    · obtain rfl : j = xs.length := by omega
      go_wp2_with fail
      go_ret
      exact ⟨rfl, (Drawn.but (S := []) hB).below (Nat.le_refl _) (by simp)⟩

theorem wpAnyH_mono {P : Program} {md : Region.Mode} {ops : Array Oper} {Q : Exit → Act → World → Prop} {S1 S2 : World → Prop} (h : ∀ w, S2 w → S1 w) : ∀ {fuel : Nat} {listed : Array Bool} {a : Act} {w : World}, wpAnyH P md ops Q S2 fuel listed a w → wpAnyH P md ops Q S1 fuel listed a w
  | 0, _, _, _, hh => hh
  | _ + 1, _, _, _, hh => ⟨hh.1, fun i hi => wpOp_mono (fun _ w' h' => ⟨h w' h'.1, wpAnyH_mono h h'.2⟩) (hh.2 i hi)⟩

/-- What the statement keeps. -/
structure Law (w W : World) (B G lo M n : Nat) (q : List Int) : Prop where
  p : Pair W B G lo M n q
  lb : w.heap.size ≤ B
  lg : w.heap.size ≤ G
  lm : w.heap.size ≤ M
  k : Below w.heap.size w W
theorem Law.step {w W W' : World} {B G lo M n : Nat} {q q' : List Int} (h : Law w W B G lo M n q) (p : Pair W' B G lo M n q') (b : But [B, G, M] W W') : Law w W' B G lo M n q' :=
  ⟨p, h.lb, h.lg, h.lm, h.k.trans (b.below h.k.size (by have := h.lb; have := h.lg; have := h.lm; simp; omega))⟩
theorem Pair.below {W W' : World} {B G lo M n : Nat} {q : List Int} (h : Pair W B G lo M n q) (b : Below W.heap.size W W') : Pair W' B G lo M n q := ⟨h.r.below b, h.m.below b, h.lb, h.lg, Nat.le_trans h.lo b.size⟩
theorem Pair.mem {W : World} {B G lo M n : Nat} {q : List Int} (h : Pair W B G lo M n q) : ∃ a c, W.cell? ⟨M, 0, none⟩ = some (.int .i64 n) ∧ W.cell? ⟨M, 1, none⟩ = some (.slice a q.length c) ∧ IntsR W a q := by
  obtain ⟨v, h1, h2, _⟩ := h.m
  obtain ⟨a, c, rfl, _, _, _, hx⟩ := h2.shape
  exact ⟨a, c, by simp [World.cell?, h1], by simp [World.cell?, h1], hx⟩

set_option maxRecDepth 100000 in
set_option maxHeartbeats 4000000 in
theorem acts_any (m i : Int) (a : Option Addr) (ca : Nat) (acts : List (Int × Int)) (w : World) (ha : Acts w a acts) (hm0 : -9223372036854775808 ≤ m) (hm1 : m ≤ 9223372036854775807) :
    Calls Try.prog 3 #[.int .i64 m, .slice a acts.length ca, .int .i64 i] w fun e w' => e = .returned (.bool true) ∧ Below w.heap.size w w' := by
  by_cases h1 : 300 < acts.length
  · have h1' : (300 : Int) < (acts.length : Int) := by omega
    go_enter Try.func3, Try.ntmps3
    go_wp2_with (first
      | (go_at_call 7; refine (lives_any _).mono ?_; rintro e w' ⟨rfl, hb⟩))
    go_ret
    exact ⟨rfl, hb⟩
  · have h1' : (acts.length : Int) ≤ 300 := by omega
    by_cases h2 : m < 1 ∨ 4096 < m
    · go_enter Try.func3, Try.ntmps3
      go_wp2_with (first
        | (go_at_call 8; refine (new_none m h2 _).mono ?_; rintro e w' ⟨rfl, hw⟩; subst w')
        | (go_at_call 9; refine (rnew_none m h2 _).mono ?_; rintro e w' ⟨rfl, hw⟩; subst w')
        | (go_at_call 7; refine (lives_any _).mono ?_; rintro e w' ⟨rfl, hb⟩))
      go_ret
      exact ⟨rfl, hb⟩
    · obtain ⟨n, rfl⟩ : ∃ n : Nat, m = n := ⟨m.toNat, by omega⟩
      have n1 : 1 ≤ n := by omega
      have n2 : n ≤ 4096 := by omega
      clear hm0 hm1 h2
      go_enter Try.func3, Try.ntmps3
      go_wp2_with (first
        | (go_at_call 8; refine (new_some n n1 n2 _).mono ?_; rintro e w1 ⟨rfl, hr, hs, hB⟩; have hs' : Hid (w1.heap.size = w.heap.size + 2) := hs; clear hs)
        | (go_at_call 9; refine (rnew_some n n1 n2 _).mono ?_; rintro e w2 ⟨rfl, hm2, hB2⟩))
      have hs := hs'.out
      clear hs'
      have hL : Law w w2 (w.heap.size + 1) w.heap.size w1.heap.size w1.heap.size n [] := ⟨⟨hr.below hB2, hm2, ⟨by omega, by omega⟩, ⟨by omega, by omega⟩, hB2.size⟩, by omega, by omega, by omega, hB.trans (hB2.mono (by omega))⟩
      clear hr hs hB hm2 hB2
      generalize w1.heap.size = M at hL ⊢
      generalize w.heap.size + 1 = B at hL ⊢
      replace hL : ∃ G lo, Law w w2 B G lo M n [] := ⟨_, _, hL⟩
      obtain ⟨G, lo, hL⟩ := hL
      go_loopw [35] (fun v wr => ∃ (j : Nat) (q : List Int), j ≤ acts.length ∧ v = .int .i64 j ∧ Law w wr B G lo M n q) (fun v _ => 300 - (intOf v).toNat)
      case atStart => exact ⟨0, [], by omega, rfl, hL⟩
      case round =>
        clear hL
        obtain ⟨j, q, hj, rfl, hL⟩ := hrel
        by_cases hlt : j < acts.length
        · obtain ⟨b', o, rfl, hc0, hc1⟩ := (ha.below hL.k) j acts[j] (by simp)
          generalize acts[j] = act at hc0 hc1
          obtain ⟨k, x⟩ := act
          dsimp only at hc0 hc1
          have h3 : (j : Int) < (acts.length : Int) := by omega
          have hA := (Below.refl wr.heap.size wr).alloc (Nat.le_refl _) (.cells #[.int .i64 k, .int .i64 x] 29)
          have hP := hL.p.below hA
          have hPd : Pair (wr.alloc (.cells #[.int .i64 k, .int .i64 x] 29)).drew B G lo M n q := hP.below (Below.refl _ _).drew
          have hL1 : Law w (wr.alloc (.cells #[.int .i64 k, .int .i64 x] 29)) B G lo M n q := hL.step hP ((But.refl _ _).alloc _)
          have e0 : (wr.alloc (.cells #[.int .i64 k, .int .i64 x] 29)).cell? ⟨wr.heap.size, 0, none⟩ = some (.int .i64 k) := by simp [go_sem]
          have e1 : (wr.alloc (.cells #[.int .i64 k, .int .i64 x] 29)).cell? ⟨wr.heap.size, 1, none⟩ = some (.int .i64 x) := by simp [go_sem]
          obtain ⟨l1, -, -⟩ := hL.p.r.le
          have hMA0 := hL.p.m.lt
          obtain ⟨lB, lG, -⟩ := hL.p.r.lt
          have AC := act_any hPd k x
          generalize hq' : actQ n q k x = q' at AC
          clear hq'
          go_wp2_with fail
          generalize wr.alloc (.cells #[.int .i64 k, .int .i64 x] 29) = W0 at hA hP hPd hL1 e0 e1 AC ⊢
          clear hc0 hc1 hP hA hL hPd
          go_cut [68] from 39 to 68 (fun v wx => v = .bool false ∧ Law w wx B G lo M n q')
          case first =>
            have hMA : M < wr.heap.size := hMA0
            refine wp_region_held_drew (S := (fun w' => w'.cell? ⟨wr.heap.size, 0, none⟩ = some (.int .i64 k) ∧ w'.cell? ⟨wr.heap.size, 1, none⟩ = some (.int .i64 x))) (by kernel_rfl) ⟨e0, e1⟩ (fun hHeld => ?_)
            refine wpAnyH_take (i := 0) (oi := { dst := some 39, op := Op.move (Operand.tmp 7), type := 24, pos := "law.go:68", after := #[], guard := none }) (v := ?_) rfl (by kernel_rfl) (by kernel_rfl) (by kernel_rfl) (fun _ _ _ h => h) (Or.inl ⟨by rfl, ?_⟩) (by assumption) ?_
            rotate_left
            · (intro w hSw; go_simp; all_goals with_reducible rfl)
            try simp only [Act.put, List.setIfInBounds_toArray, List.set_cons_zero, List.set_cons_succ]
            refine wpAnyH_take (i := 1) (oi := { dst := some 40, op := Op.move (Operand.tmp 8), type := 26, pos := "law.go:68", after := #[], guard := none }) (v := ?_) rfl (by kernel_rfl) (by kernel_rfl) (by kernel_rfl) (fun _ _ _ h => h) (Or.inl ⟨by rfl, ?_⟩) (by assumption) ?_
            rotate_left
            · (intro w hSw; go_simp; all_goals with_reducible rfl)
            try simp only [Act.put, List.setIfInBounds_toArray, List.set_cons_zero, List.set_cons_succ]
            refine wpAnyH_take (i := 2) (oi := { dst := some 41, op := Op.load 29 (Operand.tmp 10), type := 29, pos := "law.go:68", after := #[], guard := none }) (v := ?_) rfl (by kernel_rfl) (by kernel_rfl) (by kernel_rfl) (fun _ _ _ h => h) (Or.inl ⟨by rfl, ?_⟩) (by assumption) ?_
            rotate_left
            · (intro w hSw; go_simp; all_goals with_reducible rfl)
            try simp only [Act.put, List.setIfInBounds_toArray, List.set_cons_zero, List.set_cons_succ]
            refine wpAnyH_ready (rs := [3]) (by kernel_rfl) (by simp) ?_
            refine AllReadyH.cons (o := { dst := some 42, op := Op.call { callee := Callee.value (Operand.func 10), args := #[Operand.tmp 39, Operand.tmp 40, Operand.tmp 41], argTypes := #[24, 26, 29] }, type := 4, pos := "law.go:68", after := #[{ on := 0, ground := Ground.data }, { on := 1, ground := Ground.data }, { on := 2, ground := Ground.data }], guard := none }) rfl (fun K hK => ?_) AllReadyH.nil
            go_simp
            (go_at_call 10; refine AC.mono ?_; rintro e w3 ⟨rfl, hp3, b3⟩; obtain ⟨ma, mc, m0, m1, -⟩ := hp3.mem; have L3 := hL1.step hp3 (((But.refl _ W0).drew).trans b3); obtain ⟨z1, z2, -⟩ := hp3.r.le; have d0 := cell3 (((But.refl [B, G, M] W0).drew).trans b3) e0 hMA lB lG; have d1 := cell3 (((But.refl [B, G, M] W0).drew).trans b3) e1 hMA lB lG)
            refine hK.out _ _ ?_ (fun hHeld => ?_)
            · exact ⟨d0, d1⟩
            clear hK K
            try simp only [Act.put, List.setIfInBounds_toArray, List.set_cons_zero, List.set_cons_succ]
            refine wpAnyH_mono (S2 := (fun w' => (w'.cell? ⟨wr.heap.size, 0, none⟩ = some (.int .i64 k) ∧ w'.cell? ⟨wr.heap.size, 1, none⟩ = some (.int .i64 x)) ∧ w'.cell? ⟨M, 0, none⟩ = some (.int .i64 n) ∧ w'.cell? ⟨M, 1, none⟩ = some (.slice ma q'.length mc))) (fun w h => h.1) ?_
            replace hHeld : (fun w' => (w'.cell? ⟨wr.heap.size, 0, none⟩ = some (.int .i64 k) ∧ w'.cell? ⟨wr.heap.size, 1, none⟩ = some (.int .i64 x)) ∧ w'.cell? ⟨M, 0, none⟩ = some (.int .i64 n) ∧ w'.cell? ⟨M, 1, none⟩ = some (.slice ma q'.length mc)) w3 := ⟨⟨d0, d1⟩, m0, m1⟩
            clear d0 d1 m0 m1 e0 e1
            refine wpAnyH_take (i := 4) (oi := { dst := some 43, op := Op.unOp UnOp.not 4 (Operand.tmp 42), type := 4, pos := "law.go:68", after := #[{ on := 3, ground := Ground.data }], guard := none }) (v := ?_) rfl (by kernel_rfl) (by kernel_rfl) (by kernel_rfl) (fun _ _ _ h => h) (Or.inl ⟨by rfl, ?_⟩) (by assumption) ?_
            rotate_left
            · (intro w hSw; go_simp; all_goals with_reducible rfl)
            try simp only [Act.put, List.setIfInBounds_toArray, List.set_cons_zero, List.set_cons_succ]
            refine wpAnyH_take (i := 5) (oi := { dst := some 44, op := Op.move (Operand.tmp 43), type := 4, pos := "law.go:68", after := #[{ on := 4, ground := Ground.data }, { on := 3, ground := Ground.chain }], guard := none }) (v := ?_) rfl (by kernel_rfl) (by kernel_rfl) (by kernel_rfl) (fun _ _ _ h => h) (Or.inl ⟨by rfl, ?_⟩) (by assumption) ?_
            rotate_left
            · (intro w hSw; go_simp; all_goals with_reducible rfl)
            try simp only [Act.put, List.setIfInBounds_toArray, List.set_cons_zero, List.set_cons_succ]
            refine wpAnyH_take (i := 6) (oi := { dst := some 45, op := Op.move (Operand.tmp 7), type := 24, pos := "law.go:68", after := #[{ on := 5, ground := Ground.guard }], guard := some (5, false) }) (v := ?_) rfl (by kernel_rfl) (by kernel_rfl) (by kernel_rfl) (fun _ _ _ h => h) (Or.inl ⟨by rfl, ?_⟩) (by assumption) ?_
            rotate_left
            · (intro w hSw; go_simp; all_goals with_reducible rfl)
            try simp only [Act.put, List.setIfInBounds_toArray, List.set_cons_zero, List.set_cons_succ]
            refine wpAnyH_take (i := 8) (oi := { dst := some 47, op := Op.move (Operand.tmp 8), type := 26, pos := "law.go:68", after := #[{ on := 5, ground := Ground.guard }], guard := some (5, false) }) (v := ?_) rfl (by kernel_rfl) (by kernel_rfl) (by kernel_rfl) (fun _ _ _ h => h) (Or.inl ⟨by rfl, ?_⟩) (by assumption) ?_
            rotate_left
            · (intro w hSw; go_simp; all_goals with_reducible rfl)
            try simp only [Act.put, List.setIfInBounds_toArray, List.set_cons_zero, List.set_cons_succ]
            refine wpAnyH_take (i := 9) (oi := { dst := some 48, op := Op.nilCheck (Operand.tmp 47), type := 0, pos := "law.go:68", after := #[{ on := 8, ground := Ground.data }, { on := 5, ground := Ground.guard }], guard := some (5, false) }) (v := ?_) rfl (by kernel_rfl) (by kernel_rfl) (by kernel_rfl) (fun _ _ _ h => h) (Or.inl ⟨by rfl, ?_⟩) (by assumption) ?_
            rotate_left
            · (intro w hSw; go_simp; all_goals with_reducible rfl)
            try simp only [Act.put, List.setIfInBounds_toArray, List.set_cons_zero, List.set_cons_succ]
            refine wpAnyH_take (i := 10) (oi := { dst := some 49, op := Op.fieldAddr 34 (Operand.tmp 48) 1, type := 0, pos := "law.go:68", after := #[{ on := 9, ground := Ground.data }, { on := 5, ground := Ground.guard }], guard := some (5, false) }) (v := ?_) rfl (by kernel_rfl) (by kernel_rfl) (by kernel_rfl) (fun _ _ _ h => h) (Or.inl ⟨by rfl, ?_⟩) (by assumption) ?_
            rotate_left
            · (intro w hSw; go_simp; all_goals with_reducible rfl)
            try simp only [Act.put, List.setIfInBounds_toArray, List.set_cons_zero, List.set_cons_succ]
            refine wpAnyH_take (i := 11) (oi := { dst := some 50, op := Op.load 32 (Operand.tmp 49), type := 32, pos := "law.go:68", after := #[{ on := 10, ground := Ground.data }, { on := 5, ground := Ground.guard }], guard := some (5, false) }) (v := ?_) rfl (by kernel_rfl) (by kernel_rfl) (by kernel_rfl) (fun _ _ _ h => h) (Or.inl ⟨by rfl, ?_⟩) (by assumption) ?_
            rotate_left
            · (intro w hSw; go_simp; all_goals with_reducible rfl)
            try simp only [Act.put, List.setIfInBounds_toArray, List.set_cons_zero, List.set_cons_succ]
            refine wpAnyH_take (i := 12) (oi := { dst := some 51, op := Op.call { callee := Callee.builtin Builtin.len, args := #[Operand.tmp 50], argTypes := #[32] }, type := 3, pos := "law.go:68", after := #[{ on := 11, ground := Ground.data }, { on := 5, ground := Ground.guard }], guard := some (5, false) }) (v := ?_) rfl (by kernel_rfl) (by kernel_rfl) (by kernel_rfl) (fun _ _ _ h => h) (Or.inl ⟨by rfl, ?_⟩) (by assumption) ?_
            rotate_left
            · (intro w hSw; go_simp; all_goals with_reducible rfl)
            try simp only [Act.put, List.setIfInBounds_toArray, List.set_cons_zero, List.set_cons_succ]
            refine wpAnyH_ready (rs := [7]) (by kernel_rfl) (by simp) ?_
            refine AllReadyH.cons (o := { dst := some 46, op := Op.call { callee := Callee.value (Operand.func 11), args := #[Operand.tmp 45], argTypes := #[24] }, type := 3, pos := "law.go:68", after := #[{ on := 6, ground := Ground.data }, { on := 5, ground := Ground.chain }, { on := 5, ground := Ground.guard }], guard := some (5, false) }) rfl (fun K hK => ?_) AllReadyH.nil
            go_simp
            (go_at_call 11; refine (len_q hp3.r).mono ?_; rintro e w' ⟨rfl, hw⟩; subst w')
            refine hK.out _ _ ?_ (fun hHeld => ?_)
            · exact hHeld
            clear hK K
            try simp only [Act.put, List.setIfInBounds_toArray, List.set_cons_zero, List.set_cons_succ]
            refine wpAnyH_take (i := 13) (oi := { dst := some 52, op := Op.binOp BinOp.neq 3 (Operand.tmp 46) (Operand.tmp 51) 3, type := 4, pos := "law.go:68", after := #[{ on := 7, ground := Ground.data }, { on := 12, ground := Ground.data }, { on := 5, ground := Ground.guard }], guard := some (5, false) }) (v := ?_) rfl (by kernel_rfl) (by kernel_rfl) (by kernel_rfl) (fun _ _ _ h => h) (Or.inl ⟨by rfl, ?_⟩) (by assumption) ?_
            rotate_left
            · (intro w hSw; go_simp; all_goals with_reducible rfl)
            try simp only [Act.put, List.setIfInBounds_toArray, List.set_cons_zero, List.set_cons_succ]
            refine wpAnyH_take (i := 14) (oi := { dst := some 53, op := Op.pick (Operand.tmp 44) (Operand.const (Value.bool true)) (Operand.tmp 52), type := 4, pos := "law.go:68", after := #[{ on := 5, ground := Ground.data }, { on := 13, ground := Ground.data }], guard := none }) (v := ?_) rfl (by kernel_rfl) (by kernel_rfl) (by kernel_rfl) (fun _ _ _ h => h) (Or.inl ⟨by rfl, ?_⟩) (by assumption) ?_
            rotate_left
            · (intro w hSw; go_simp; all_goals with_reducible rfl)
            try simp only [Act.put, List.setIfInBounds_toArray, List.set_cons_zero, List.set_cons_succ]
            refine wpAnyH_take (i := 15) (oi := { dst := some 54, op := Op.move (Operand.tmp 53), type := 4, pos := "law.go:68", after := #[{ on := 14, ground := Ground.data }, { on := 7, ground := Ground.chain }], guard := none }) (v := ?_) rfl (by kernel_rfl) (by kernel_rfl) (by kernel_rfl) (fun _ _ _ h => h) (Or.inl ⟨by rfl, ?_⟩) (by assumption) ?_
            rotate_left
            · (intro w hSw; go_simp; all_goals with_reducible rfl)
            try simp only [Act.put, List.setIfInBounds_toArray, List.set_cons_zero, List.set_cons_succ]
            refine wpAnyH_take (i := 16) (oi := { dst := some 55, op := Op.move (Operand.tmp 7), type := 24, pos := "law.go:68", after := #[{ on := 15, ground := Ground.guard }], guard := some (15, false) }) (v := ?_) rfl (by kernel_rfl) (by kernel_rfl) (by kernel_rfl) (fun _ _ _ h => h) (Or.inl ⟨by rfl, ?_⟩) (by assumption) ?_
            rotate_left
            · (intro w hSw; go_simp; all_goals with_reducible rfl)
            try simp only [Act.put, List.setIfInBounds_toArray, List.set_cons_zero, List.set_cons_succ]
            refine wpAnyH_take (i := 18) (oi := { dst := some 57, op := Op.move (Operand.tmp 8), type := 26, pos := "law.go:68", after := #[{ on := 15, ground := Ground.guard }], guard := some (15, false) }) (v := ?_) rfl (by kernel_rfl) (by kernel_rfl) (by kernel_rfl) (fun _ _ _ h => h) (Or.inl ⟨by rfl, ?_⟩) (by assumption) ?_
            rotate_left
            · (intro w hSw; go_simp; all_goals with_reducible rfl)
            try simp only [Act.put, List.setIfInBounds_toArray, List.set_cons_zero, List.set_cons_succ]
            refine wpAnyH_take (i := 19) (oi := { dst := some 58, op := Op.nilCheck (Operand.tmp 57), type := 0, pos := "law.go:68", after := #[{ on := 18, ground := Ground.data }, { on := 15, ground := Ground.guard }], guard := some (15, false) }) (v := ?_) rfl (by kernel_rfl) (by kernel_rfl) (by kernel_rfl) (fun _ _ _ h => h) (Or.inl ⟨by rfl, ?_⟩) (by assumption) ?_
            rotate_left
            · (intro w hSw; go_simp; all_goals with_reducible rfl)
            try simp only [Act.put, List.setIfInBounds_toArray, List.set_cons_zero, List.set_cons_succ]
            refine wpAnyH_take (i := 20) (oi := { dst := some 59, op := Op.fieldAddr 34 (Operand.tmp 58) 0, type := 0, pos := "law.go:68", after := #[{ on := 19, ground := Ground.data }, { on := 15, ground := Ground.guard }], guard := some (15, false) }) (v := ?_) rfl (by kernel_rfl) (by kernel_rfl) (by kernel_rfl) (fun _ _ _ h => h) (Or.inl ⟨by rfl, ?_⟩) (by assumption) ?_
            rotate_left
            · (intro w hSw; go_simp; all_goals with_reducible rfl)
            try simp only [Act.put, List.setIfInBounds_toArray, List.set_cons_zero, List.set_cons_succ]
            refine wpAnyH_take (i := 21) (oi := { dst := some 60, op := Op.load 3 (Operand.tmp 59), type := 3, pos := "law.go:68", after := #[{ on := 20, ground := Ground.data }, { on := 15, ground := Ground.guard }], guard := some (15, false) }) (v := ?_) rfl (by kernel_rfl) (by kernel_rfl) (by kernel_rfl) (fun _ _ _ h => h) (Or.inl ⟨by rfl, ?_⟩) (by assumption) ?_
            rotate_left
            · (intro w hSw; go_simp; all_goals with_reducible rfl)
            try simp only [Act.put, List.setIfInBounds_toArray, List.set_cons_zero, List.set_cons_succ]
            refine wpAnyH_take (i := 22) (oi := { dst := some 61, op := Op.move (Operand.tmp 8), type := 26, pos := "law.go:68", after := #[{ on := 15, ground := Ground.guard }], guard := some (15, false) }) (v := ?_) rfl (by kernel_rfl) (by kernel_rfl) (by kernel_rfl) (fun _ _ _ h => h) (Or.inl ⟨by rfl, ?_⟩) (by assumption) ?_
            rotate_left
            · (intro w hSw; go_simp; all_goals with_reducible rfl)
            try simp only [Act.put, List.setIfInBounds_toArray, List.set_cons_zero, List.set_cons_succ]
            refine wpAnyH_take (i := 23) (oi := { dst := some 62, op := Op.nilCheck (Operand.tmp 61), type := 0, pos := "law.go:68", after := #[{ on := 22, ground := Ground.data }, { on := 15, ground := Ground.guard }], guard := some (15, false) }) (v := ?_) rfl (by kernel_rfl) (by kernel_rfl) (by kernel_rfl) (fun _ _ _ h => h) (Or.inl ⟨by rfl, ?_⟩) (by assumption) ?_
            rotate_left
            · (intro w hSw; go_simp; all_goals with_reducible rfl)
            try simp only [Act.put, List.setIfInBounds_toArray, List.set_cons_zero, List.set_cons_succ]
            refine wpAnyH_take (i := 24) (oi := { dst := some 63, op := Op.fieldAddr 34 (Operand.tmp 62) 1, type := 0, pos := "law.go:68", after := #[{ on := 23, ground := Ground.data }, { on := 15, ground := Ground.guard }], guard := some (15, false) }) (v := ?_) rfl (by kernel_rfl) (by kernel_rfl) (by kernel_rfl) (fun _ _ _ h => h) (Or.inl ⟨by rfl, ?_⟩) (by assumption) ?_
            rotate_left
            · (intro w hSw; go_simp; all_goals with_reducible rfl)
            try simp only [Act.put, List.setIfInBounds_toArray, List.set_cons_zero, List.set_cons_succ]
            refine wpAnyH_take (i := 25) (oi := { dst := some 64, op := Op.load 32 (Operand.tmp 63), type := 32, pos := "law.go:68", after := #[{ on := 24, ground := Ground.data }, { on := 15, ground := Ground.guard }], guard := some (15, false) }) (v := ?_) rfl (by kernel_rfl) (by kernel_rfl) (by kernel_rfl) (fun _ _ _ h => h) (Or.inl ⟨by rfl, ?_⟩) (by assumption) ?_
            rotate_left
            · (intro w hSw; go_simp; all_goals with_reducible rfl)
            try simp only [Act.put, List.setIfInBounds_toArray, List.set_cons_zero, List.set_cons_succ]
            refine wpAnyH_take (i := 26) (oi := { dst := some 65, op := Op.call { callee := Callee.builtin Builtin.len, args := #[Operand.tmp 64], argTypes := #[32] }, type := 3, pos := "law.go:68", after := #[{ on := 25, ground := Ground.data }, { on := 15, ground := Ground.guard }], guard := some (15, false) }) (v := ?_) rfl (by kernel_rfl) (by kernel_rfl) (by kernel_rfl) (fun _ _ _ h => h) (Or.inl ⟨by rfl, ?_⟩) (by assumption) ?_
            rotate_left
            · (intro w hSw; go_simp; all_goals with_reducible rfl)
            try simp only [Act.put, List.setIfInBounds_toArray, List.set_cons_zero, List.set_cons_succ]
            refine wpAnyH_take (i := 27) (oi := { dst := some 66, op := Op.binOp BinOp.sub 3 (Operand.tmp 60) (Operand.tmp 65) 3, type := 3, pos := "law.go:68", after := #[{ on := 21, ground := Ground.data }, { on := 26, ground := Ground.data }, { on := 15, ground := Ground.guard }], guard := some (15, false) }) (v := ?_) rfl (by kernel_rfl) (by kernel_rfl) (by kernel_rfl) (fun _ _ _ h => h) (Or.inl ⟨by rfl, ?_⟩) (by assumption) ?_
            rotate_left
            · (intro w hSw; go_simp; all_goals with_reducible rfl)
            try simp only [Act.put, List.setIfInBounds_toArray, List.set_cons_zero, List.set_cons_succ]
            refine wpAnyH_ready (rs := [17]) (by kernel_rfl) (by simp) ?_
            refine AllReadyH.cons (o := { dst := some 56, op := Op.call { callee := Callee.value (Operand.func 12), args := #[Operand.tmp 55], argTypes := #[24] }, type := 3, pos := "law.go:68", after := #[{ on := 16, ground := Ground.data }, { on := 15, ground := Ground.chain }, { on := 15, ground := Ground.guard }], guard := some (15, false) }) rfl (fun K hK => ?_) AllReadyH.nil
            go_simp
            (go_at_call 12; refine (room_q hp3.r).mono ?_; rintro e w4 ⟨rfl, k4, rfl⟩)
            refine hK.out _ _ ?_ (fun hHeld => ?_)
            · exact hHeld
            clear hK K
            try simp only [Act.put, List.setIfInBounds_toArray, List.set_cons_zero, List.set_cons_succ]
            refine wpAnyH_take (i := 28) (oi := { dst := some 67, op := Op.binOp BinOp.neq 3 (Operand.tmp 56) (Operand.tmp 66) 3, type := 4, pos := "law.go:68", after := #[{ on := 17, ground := Ground.data }, { on := 27, ground := Ground.data }, { on := 15, ground := Ground.guard }], guard := some (15, false) }) (v := ?_) rfl (by kernel_rfl) (by kernel_rfl) (by kernel_rfl) (fun _ _ _ h => h) (Or.inl ⟨by rfl, ?_⟩) (by assumption) ?_
            rotate_left
            · (intro w hSw; go_simp; all_goals with_reducible rfl)
            try simp only [Act.put, List.setIfInBounds_toArray, List.set_cons_zero, List.set_cons_succ]
            refine wpAnyH_take (i := 29) (oi := { dst := some 68, op := Op.pick (Operand.tmp 54) (Operand.const (Value.bool true)) (Operand.tmp 67), type := 4, pos := "law.go:68", after := #[{ on := 15, ground := Ground.data }, { on := 28, ground := Ground.data }], guard := none }) (v := ?_) rfl (by kernel_rfl) (by kernel_rfl) (by kernel_rfl) (fun _ _ _ h => h) (Or.inl ⟨by rfl, ?_⟩) (by assumption) ?_
            rotate_left
            · (intro w hSw; go_simp; all_goals with_reducible rfl)
            try simp only [Act.put, List.setIfInBounds_toArray, List.set_cons_zero, List.set_cons_succ]
            refine wpAnyH_done (by kernel_rfl) ?_ _
            have L4 : Law w (w3.drewN k4) B G lo M n q' := L3.step (L3.p.below ((But.refl [] _).drewN k4 |>.below (Nat.le_refl _) (by simp))) ((But.refl _ _).drewN k4)
            clear L3 hp3 b3 hHeld AC
            go_wp2_with fail
            go_meet
            case rel =>
              refine ⟨?_, L4⟩
              have hww : IntKind.i64.wrap ((n : Int) - (q'.length : Int)) = (n : Int) - (q'.length : Int) := by rw [IntKind.wrap_i64]; omega
              simp [hww]
          case rest =>
            obtain ⟨rfl, hL2⟩ := hcut
            go_wp2_with fail
            go_roundw
            case rel => exact ⟨j + 1, q', by omega, by simp, hL2⟩
            case measure =>
              simp [intOf]
              omega
        · have h3 : (acts.length : Int) ≤ (j : Int) := by omega
          have hp := hL.p
          obtain ⟨l1, l2, -⟩ := hp.r.le
          have A1 : ∀ W, Pair W B G lo M n q → Calls Try.prog 14 #[.pointer (some ⟨B, 0, none⟩), .int .i64 i] W fun e w' => e = .returned (.tuple #[.int .i64 (atQ q i), .bool (isQ q i)]) ∧ Drawn W w' := fun W h => at_q h.r i
          have A2 : ∀ W, Pair W B G lo M n q → Calls Try.prog 15 #[.pointer (some ⟨M, 0, none⟩), .int .i64 i] W fun e w' => e = .returned (.tuple #[.int .i64 (atQ q i), .bool (isQ q i)]) ∧ w' = W := fun W h => rat_any h.m i
          have F1 : ∀ W, Pair W B G lo M n q → Calls Try.prog 17 #[.pointer (some ⟨B, 0, none⟩), .int .i64 i] W fun e w' => e = .returned (.int .i64 (findI q i 0)) ∧ Drawn W w' := fun W h => find_q h.r i
          have F2 : ∀ W, Pair W B G lo M n q → Calls Try.prog 18 #[.pointer (some ⟨M, 0, none⟩), .int .i64 i] W fun e w' => e = .returned (.int .i64 (findI q i 0)) ∧ w' = W := fun W h => rfind_any h.m i
          generalize atQ q i = y at A1 A2
          generalize isQ q i = z at A1 A2
          generalize findI q i 0 = f at F1 F2
          clear ha hlt
          go_wp2_with (first
            | (go_at_call 13; refine (lall_any _ _ _ hp.r.src).mono ?_; rintro e w3 ⟨v, rfl, hrow, hb3⟩; have hp3 := hp.below hb3; obtain ⟨va, vc, rfl, hva⟩ := hrow.open'; clear hrow)
            | (go_at_call 14; refine (A1 _ hp3).mono ?_; rintro e w4 ⟨rfl, hd4⟩; have hb4 : Below w3.heap.size w3 w4 := (hd4.but (S := [])).below (Nat.le_refl _) (by simp); have hp4 := hp3.below hb4; obtain ⟨ma, mc, m0, m1, hma⟩ := hp4.mem; have hva4 : IntsR w4 va q := fun j x hx => by obtain ⟨g, e, hc⟩ := hva j x hx; exact ⟨g, e, cell_on hb4 hc⟩)
            | (go_at_call 15; refine (A2 _ hp4).mono ?_; rintro e w' ⟨rfl, hw⟩; subst w')
            | (go_at_call 16; refine (ints_any va ma vc mc q w4 (by omega) hva4 hma).mono ?_; rintro e w5 ⟨rfl, hb5⟩; have hp5 := hp4.below hb5)
            | (go_at_call 17; refine (F1 _ hp5).mono ?_; rintro e w6 ⟨rfl, hd6⟩; have hb6 : Below w5.heap.size w5 w6 := (hd6.but (S := [])).below (Nat.le_refl _) (by simp); have hp6 := hp5.below hb6)
            | (go_at_call 18; refine (F2 _ hp6).mono ?_; rintro e w' ⟨rfl, hw⟩; subst w')
            | (go_at_call 7; refine (lives_any _).mono ?_; rintro e w7 ⟨rfl, hb7⟩))
          all_goals
            go_ret
            refine ⟨by simp, ?_⟩
            have s3 := hb3.trans (hb4.mono hb3.size)
            have s5 := s3.trans (hb5.mono s3.size)
            have s6 := s5.trans (hb6.mono s5.size)
            have s7 := s6.trans (hb7.mono s6.size)
            exact hL.k.trans (s7.mono hL.k.size)

end Go.Proofs.Ytfobfkidpdlkeaa
