/- The walk of WheelActs. -/
import Derived.Test.YtmjjghhlalaeiaaAct
import Derived.Test.YtmjjghhlalaeiaaRefAll
import Derived.Test.YtmjjghhlalaeiaaNextQ
import Derived.Test.YtmjjghhlalaeiaaLen
import Derived.Test.YtmjjghhlalaeiaaOpens
import Derived.Test.YtmjjghhlalaeiaaHold
import Derived.Deep.CutRange
namespace Go.Proofs.Ytmjjghhlalaeiaa
open Go Go.RowKit

theorem below_two {T : Wp} {P : Rp} {a b : World} {m : Nat} (h : But (twoS T P) a b) (hm : m ≤ a.heap.size) (h1 : ∀ k ∈ T.S, m ≤ k) (h2 : ∀ k ∈ P.S, m ≤ k) : Below m a b :=
  h.below hm (fun x hx => (List.mem_append.1 hx).elim (h1 x) (h2 x))
theorem c3b_on {w w' : World} {B : Nat} {x y z : Value} {S : List Nat} (hb : But S w w') (hp : B ∉ S) (h : w.cell? ⟨B, 0, none⟩ = some x ∧ w.cell? ⟨B, 1, none⟩ = some y ∧ w.cell? ⟨B, 2, none⟩ = some z) : w'.cell? ⟨B, 0, none⟩ = some x ∧ w'.cell? ⟨B, 1, none⟩ = some y ∧ w'.cell? ⟨B, 2, none⟩ = some z :=
  ⟨hb.cell' h.1 hp, hb.cell' h.2.1 hp, hb.cell' h.2.2 hp⟩

set_option maxRecDepth 100000 in
set_option maxHeartbeats 8000000 in
theorem acts_any (a0 : Int) (sp : Option Addr) (cp : Nat) (xs : List (Int × Int × Int)) (w : World) (hx : Acts w sp xs) :
    Calls Try.prog 3 #[.int .i64 a0, .slice sp xs.length cp] w fun e w' => e = .returned (.bool true) ∧ Below w.heap.size w w' := by
  by_cases h0 : 60 < xs.length
  · have h2 : (60 : Int) < (xs.length : Int) := by omega
    clear hx h0
    go_enter Try.func3, Try.ntmps3
    go_wp2_with (first
      | (go_at_call 8; refine (lives_any _).mono ?_; rintro e w' ⟨rfl, hb⟩))
    go_ret
    exact ⟨rfl, hb⟩
  · have hl2 : xs.length ≤ 60 := by omega
    have hl2' : (xs.length : Int) ≤ 60 := by omega
    clear h0
    cases hin : inN 4096 (a0 - 1) with
    | false =>
      go_enter Try.func3, Try.ntmps3
      go_wp2_with (first
        | (go_at_call 9; refine (wnew_none a0 hin _).mono ?_; rintro e w' ⟨rfl, hw⟩; subst w')
        | (go_at_call 10; refine (rnew_none a0 hin _).mono ?_; rintro e w' ⟨rfl, hw⟩; subst w')
        | (go_at_call 8; refine (lives_any _).mono ?_; rintro e w' ⟨rfl, hb⟩))
      go_ret
      exact ⟨rfl, hb⟩
    | true =>
      obtain ⟨N, rfl, hN1, hN2⟩ : ∃ N : Nat, a0 = N ∧ 1 ≤ N ∧ N ≤ 4096 := by
        obtain ⟨k, e, hk⟩ := inN_out hin
        exact ⟨k + 1, by omega, by omega, by omega⟩
      clear hin
      go_enter Try.func3, Try.ntmps3
      go_wp2_with (first
        | (go_at_call 9; refine (wnew_some N hN1 hN2 _).mono ?_; rintro e w1 ⟨T, rfl, h1, hk1, b1⟩)
        | (go_at_call 10; refine (rnew_some N hN1 hN2 _).mono ?_; rintro e w2 ⟨P, rfl, h2, hk2, b2⟩))
      have hPr : Pr w2 T P N 0 (List.replicate N 0) := ⟨h1.below b2, h2, fun x hx e => by have := h1.lt hx; have := hk2 x e; omega⟩
      have hB2 := b1.trans (b2.mono b1.size)
      have hk2' : ∀ k ∈ P.S, w.heap.size ≤ k := fun k hk => Nat.le_trans b1.size (hk2 k hk)
      clear h1 h2 b1 b2 hk2
      generalize List.replicate N 0 = wh0 at *
      go_loopw [33] (fun p wr => ∃ (j m : Nat) (wh : List Nat), j ≤ xs.length ∧ p = .int .i64 j ∧ Pr wr T P N m wh ∧ m ≤ j * 100000 ∧ Below w.heap.size w wr) (fun p _ => 60 - (intOf p).toNat)
      case atStart => exact ⟨0, 0, wh0, by omega, rfl, hPr, by omega, hB2⟩
      case round =>
        clear hPr hB2
        obtain ⟨j, m, wh, hj, rfl, hPr, hmj, hB⟩ := hrel
        by_cases hjl : j < xs.length
        · obtain ⟨b, o, rfl, c0, c1, c2⟩ := (hx.below hB) j xs[j] (by simp)
          generalize xs[j] = aa at c0 c1 c2
          obtain ⟨ka, la, ta⟩ := aa
          dsimp only at c0 c1 c2
          have hba : Below wr.heap.size wr (wr.alloc (.cells #[.int .i64 ka, .int .i64 la, .int .i64 ta] 29)).drew := ((Below.refl _ wr).alloc (Nat.le_refl _) _).drew
          have HA := act_any (hPr.below hba) (by omega) ka la ta
          have hj3 : (j : Int) < (xs.length : Int) := by omega
          have hj0 : (0 : Int) ≤ (j : Int) := by omega
          have hTS : wr.heap.size ∉ twoS T P := fun e => by
            rcases List.mem_append.1 e with e | e
            · have := hPr.q.lt e; omega
            · have := hPr.r.lt e; omega
          have HB : Hid (Below w.heap.size w (wr.alloc (.cells #[.int .i64 ka, .int .i64 la, .int .i64 ta] 29)).drew) := (hB.alloc hB.size _).drew
          have hS : (wr.alloc (.cells #[.int .i64 ka, .int .i64 la, .int .i64 ta] 29)).cell? ⟨wr.heap.size, 0, none⟩ = some (.int .i64 ka) ∧ (wr.alloc (.cells #[.int .i64 ka, .int .i64 la, .int .i64 ta] 29)).cell? ⟨wr.heap.size, 1, none⟩ = some (.int .i64 la) ∧ (wr.alloc (.cells #[.int .i64 ka, .int .i64 la, .int .i64 ta] 29)).cell? ⟨wr.heap.size, 2, none⟩ = some (.int .i64 ta) := by
            refine ⟨?_, ?_, ?_⟩ <;> simp [go_sem]
          have hSd := c3b_on (S := []) ((But.refl [] (wr.alloc (.cells #[.int .i64 ka, .int .i64 la, .int .i64 ta] 29))).drew) (by simp) hS
          have HN : ∀ W m wh, WQ W T N m wh → Calls Try.prog 12 #[.pointer (some ⟨T.B, 0, none⟩)] W fun e w' => e = .returned (.int .i64 m) ∧ w' = W := fun W m wh hW => by
            obtain ⟨us, ls, hm, _⟩ := hW.pair
            exact now2_any hm
          have HL : ∀ W m wh, WQ W T N m wh → m ≤ 100000000 → Calls Try.prog 13 #[.pointer (some ⟨T.B, 0, none⟩)] W fun e w' => e = .returned (.int .i64 ((ints (allL wh)).length : Nat)) ∧ Below W.heap.size W w' := fun W m wh hW hm => by
            rw [ints_len, (allL_perm wh).length_eq]
            exact wlen_any hW (tm_small (by omega))
          have HR : ∀ W m wh, RQ W P N m wh → _ := fun W m wh hW => rall_any hW
          have hm0 : m ≤ 6000000 := by omega
          have hNx : (N : Int) ≤ 4096 := by omega
          clear hPr hba
          go_wp2_with fail
          go_cut [58] from 37 to 58 (fun v wx => v = .bool false ∧ ∃ (m' : Nat) (wh' : List Nat), m' ≤ m + 100000 ∧ Pr wx T P N m' wh' ∧ But (twoS T P) (wr.alloc (.cells #[.int .i64 ka, .int .i64 la, .int .i64 ta] 29)).drew wx)
          case first =>
            refine wp_region_held_drew (S := (fun w' : World => w'.cell? ⟨wr.heap.size, 0, none⟩ = some (.int .i64 ka) ∧ w'.cell? ⟨wr.heap.size, 1, none⟩ = some (.int .i64 la) ∧ w'.cell? ⟨wr.heap.size, 2, none⟩ = some (.int .i64 ta))) (by kernel_rfl) hSd (fun hHeld => ?_)
            refine anyH_take (i := 0) (v := ?_) (some 37) rfl rfl (by kernel_rfl) (fun _ _ _ h => h) (Or.inl ⟨by rfl, ?_⟩) (by assumption) ?_
            rotate_left
            · (intro w hSw; go_simp; all_goals with_reducible rfl)
            try simp only [Act.put, List.setIfInBounds_toArray, List.set_cons_zero, List.set_cons_succ]
            refine anyH_take (i := 1) (v := ?_) (some 38) rfl rfl (by kernel_rfl) (fun _ _ _ h => h) (Or.inl ⟨by rfl, ?_⟩) (by assumption) ?_
            rotate_left
            · (intro w hSw; go_simp; all_goals with_reducible rfl)
            try simp only [Act.put, List.setIfInBounds_toArray, List.set_cons_zero, List.set_cons_succ]
            refine anyH_take (i := 2) (v := ?_) (some 39) rfl rfl (by kernel_rfl) (fun _ _ _ h => h) (Or.inl ⟨by rfl, ?_⟩) (by assumption) ?_
            rotate_left
            · (intro w hSw; go_simp; all_goals with_reducible rfl)
            try simp only [Act.put, List.setIfInBounds_toArray, List.set_cons_zero, List.set_cons_succ]
            refine anyH_one (i := 3) (by kernel_rfl) rfl (fun K hK => ?_)
            go_simp
            go_at_call 11
            refine HA.mono ?_
            rintro e w3 ⟨rfl, ⟨m', wh', p3, hm'⟩, s3⟩
            refine hK.out _ _ (c3b_on s3 hTS hSd) (fun hHeld => ?_)
            clear hK K
            try simp only [Act.put, List.setIfInBounds_toArray, List.set_cons_zero, List.set_cons_succ]
            refine anyH_mono (S2 := (fun w' : World => (w'.cell? ⟨wr.heap.size, 0, none⟩ = some (.int .i64 ka) ∧ w'.cell? ⟨wr.heap.size, 1, none⟩ = some (.int .i64 la) ∧ w'.cell? ⟨wr.heap.size, 2, none⟩ = some (.int .i64 ta)) ∧ w'.cell? ⟨P.B, 1, none⟩ = some (.int .i64 m'))) (fun _ h => h.1) ?_
            replace hHeld : (fun w' : World => (w'.cell? ⟨wr.heap.size, 0, none⟩ = some (.int .i64 ka) ∧ w'.cell? ⟨wr.heap.size, 1, none⟩ = some (.int .i64 la) ∧ w'.cell? ⟨wr.heap.size, 2, none⟩ = some (.int .i64 ta)) ∧ w'.cell? ⟨P.B, 1, none⟩ = some (.int .i64 m')) _ := ⟨hHeld, p3.r.c1⟩
            refine anyH_take (i := 4) (v := ?_) (some 41) rfl rfl (by kernel_rfl) (fun _ _ _ h => h) (Or.inl ⟨by rfl, ?_⟩) (by assumption) ?_
            rotate_left
            · (intro w hSw; go_simp; all_goals with_reducible rfl)
            try simp only [Act.put, List.setIfInBounds_toArray, List.set_cons_zero, List.set_cons_succ]
            refine anyH_take (i := 5) (v := ?_) (some 42) rfl rfl (by kernel_rfl) (fun _ _ _ h => h) (Or.inl ⟨by rfl, ?_⟩) (by assumption) ?_
            rotate_left
            · (intro w hSw; go_simp; all_goals with_reducible rfl)
            try simp only [Act.put, List.setIfInBounds_toArray, List.set_cons_zero, List.set_cons_succ]
            refine anyH_take (i := 6) (v := ?_) (some 43) rfl rfl (by kernel_rfl) (fun _ _ _ h => h) (Or.inl ⟨by rfl, ?_⟩) (by assumption) ?_
            rotate_left
            · (intro w hSw; go_simp; all_goals with_reducible rfl)
            try simp only [Act.put, List.setIfInBounds_toArray, List.set_cons_zero, List.set_cons_succ]
            refine anyH_take (i := 8) (v := ?_) (some 45) rfl rfl (by kernel_rfl) (fun _ _ _ h => h) (Or.inl ⟨by rfl, ?_⟩) (by assumption) ?_
            rotate_left
            · (intro w hSw; go_simp; all_goals with_reducible rfl)
            try simp only [Act.put, List.setIfInBounds_toArray, List.set_cons_zero, List.set_cons_succ]
            refine anyH_take (i := 9) (v := ?_) (some 46) rfl rfl (by kernel_rfl) (fun _ _ _ h => h) (Or.inl ⟨by rfl, ?_⟩) (by assumption) ?_
            rotate_left
            · (intro w hSw; go_simp; all_goals with_reducible rfl)
            try simp only [Act.put, List.setIfInBounds_toArray, List.set_cons_zero, List.set_cons_succ]
            refine anyH_take (i := 10) (v := ?_) (some 47) rfl rfl (by kernel_rfl) (fun _ _ _ h => h) (Or.inl ⟨by rfl, ?_⟩) (by assumption) ?_
            rotate_left
            · (intro w hSw; go_simp; all_goals with_reducible rfl)
            try simp only [Act.put, List.setIfInBounds_toArray, List.set_cons_zero, List.set_cons_succ]
            refine anyH_take (i := 11) (v := ?_) (some 48) rfl rfl (by kernel_rfl) (fun _ _ _ h => h) (Or.inl ⟨by rfl, ?_⟩) (by assumption) ?_
            rotate_left
            · (intro w hSw; obtain ⟨-, z0⟩ := hSw; go_simp; all_goals with_reducible rfl)
            try simp only [Act.put, List.setIfInBounds_toArray, List.set_cons_zero, List.set_cons_succ]
            refine anyH_one (i := 7) (by kernel_rfl) rfl (fun K hK => ?_)
            go_simp
            go_at_call 12
            refine (HN _ _ _ p3.q).mono ?_
            rintro e w' ⟨rfl, hw⟩
            subst w'
            refine hK.out _ _ hHeld (fun hHeld => ?_)
            clear hK K
            try simp only [Act.put, List.setIfInBounds_toArray, List.set_cons_zero, List.set_cons_succ]
            refine anyH_take (i := 12) (v := ?_) (some 49) rfl rfl (by kernel_rfl) (fun _ _ _ h => h) (Or.inl ⟨by rfl, ?_⟩) (by assumption) ?_
            rotate_left
            · (intro w hSw; go_simp; all_goals with_reducible rfl)
            try simp only [Act.put, List.setIfInBounds_toArray, List.set_cons_zero, List.set_cons_succ]
            refine anyH_take (i := 13) (v := ?_) (some 50) rfl rfl (by kernel_rfl) (fun _ _ _ h => h) (Or.inl ⟨by rfl, ?_⟩) (by assumption) ?_
            rotate_left
            · (intro w hSw; go_simp; all_goals with_reducible rfl)
            try simp only [Act.put, List.setIfInBounds_toArray, List.set_cons_zero, List.set_cons_succ]
            refine anyH_take (i := 14) (v := ?_) (some 51) rfl rfl (by kernel_rfl) (fun _ _ _ h => h) (Or.inl ⟨by rfl, ?_⟩) (by assumption) ?_
            rotate_left
            · (intro w hSw; go_simp; all_goals with_reducible rfl)
            try simp only [Act.put, List.setIfInBounds_toArray, List.set_cons_zero, List.set_cons_succ]
            refine anyH_take (i := 15) (v := ?_) (some 52) rfl rfl (by kernel_rfl) (fun _ _ _ h => h) (Or.inl ⟨by rfl, ?_⟩) (by assumption) ?_
            rotate_left
            · (intro w hSw; go_simp; all_goals with_reducible rfl)
            try simp only [Act.put, List.setIfInBounds_toArray, List.set_cons_zero, List.set_cons_succ]
            refine anyH_take (i := 17) (v := ?_) (some 54) rfl rfl (by kernel_rfl) (fun _ _ _ h => h) (Or.inl ⟨by rfl, ?_⟩) (by assumption) ?_
            rotate_left
            · (intro w hSw; go_simp; all_goals with_reducible rfl)
            try simp only [Act.put, List.setIfInBounds_toArray, List.set_cons_zero, List.set_cons_succ]
            refine anyH_one (i := 16) (by kernel_rfl) rfl (fun K hK => ?_)
            go_simp
            go_at_call 13
            refine (HL _ _ _ p3.q (by omega)).mono ?_
            rintro e w4 ⟨rfl, b4⟩
            have p4 := p3.below b4
            have s4 := s3.trans (.of_below b4)
            refine hK.out _ _ ⟨c3b_on (S := []) (.of_below b4) (by simp) hHeld.1, (But.of_below (S := []) b4).cell hHeld.2⟩ (fun hHeld => ?_)
            clear hK K
            try simp only [Act.put, List.setIfInBounds_toArray, List.set_cons_zero, List.set_cons_succ]
            refine anyH_one (i := 18) (by kernel_rfl) rfl (fun K hK => ?_)
            go_simp
            go_at_call 14
            refine (HR _ _ _ p4.r).mono ?_
            rintro e w5 ⟨v5, rfl, r5, b5⟩
            obtain ⟨a5, c5, rfl, -⟩ := r5.open'
            clear r5
            have p5 := p4.below b5
            have s5 := s4.trans (.of_below b5)
            refine hK.out _ _ ⟨c3b_on (S := []) (.of_below b5) (by simp) hHeld.1, (But.of_below (S := []) b5).cell hHeld.2⟩ (fun hHeld => ?_)
            clear hK K
            try simp only [Act.put, List.setIfInBounds_toArray, List.set_cons_zero, List.set_cons_succ]
            refine anyH_take (i := 19) (v := ?_) (some 56) rfl rfl (by kernel_rfl) (fun _ _ _ h => h) (Or.inl ⟨by rfl, ?_⟩) (by assumption) ?_
            rotate_left
            · (intro w hSw; go_simp; all_goals with_reducible rfl)
            try simp only [Act.put, List.setIfInBounds_toArray, List.set_cons_zero, List.set_cons_succ]
            refine anyH_take (i := 20) (v := ?_) (some 57) rfl rfl (by kernel_rfl) (fun _ _ _ h => h) (Or.inl ⟨by rfl, ?_⟩) (by assumption) ?_
            rotate_left
            · (intro w hSw; go_simp; all_goals with_reducible rfl)
            try simp only [Act.put, List.setIfInBounds_toArray, List.set_cons_zero, List.set_cons_succ]
            refine anyH_take (i := 21) (v := ?_) (some 58) rfl rfl (by kernel_rfl) (fun _ _ _ h => h) (Or.inl ⟨by rfl, ?_⟩) (by assumption) ?_
            rotate_left
            · (intro w hSw; go_simp; all_goals with_reducible rfl)
            try simp only [Act.put, List.setIfInBounds_toArray, List.set_cons_zero, List.set_cons_succ]
            refine wpAnyH_done (by kernel_rfl) ?_ _
            go_wp2_with fail
            go_meet
            exact ⟨rfl, m', wh', hm', p5, s5⟩
          case rest =>
            rename_i v58 w5 hcut
            obtain ⟨rfl, m', wh', hm', p5, s5⟩ := hcut
            have HX := wnext_any p5.q (tm_small (by omega))
            clear HN HL HR HA hS
            cases hil : inN N la with
            | false =>
              have HW : ∀ W, WQ W T N m' wh' → Calls Try.prog 17 #[.pointer (some ⟨T.B, 0, none⟩), .int .i64 la] W fun e w' => e = .returned (.tuple #[.int .i64 0, .bool false]) ∧ w' = W := fun W hW => by
                have := wwhen_any hW la
                rw [hil] at this
                exact this
              unfold inN at hil
              simp at hil
              by_cases hla : 0 ≤ la
              · have hla2 : (N : Int) ≤ la := by omega
                have hlb : decide ((0 : Int) ≤ la) = true := by simpa using hla
                have hlb2 : decide (la < (N : Int)) = false := by simp; omega
                clear hil
                go_wp2_with (first
                  | (go_at_call 15; refine HX.mono ?_; rintro e w6 ⟨rfl, b6⟩; have p6 := p5.below b6; have s6 := s5.trans (.of_below b6); obtain ⟨k60, k61, k62⟩ := c3b_on s6 hTS hSd; have hc0 := p6.r.c0; have hc2 := p6.r.c2; skip)
                  | (go_at_call 16; refine (rnext_any p6.r).mono ?_; rintro e w' ⟨rfl, hw⟩; subst w')
                  | (go_at_call 17; refine (HW _ p6.q).mono ?_; rintro e w' ⟨rfl, hw⟩; subst w'))
                go_quiet (fail)
                go_wp2_with fail
                go_roundw
                case rel => exact ⟨j + 1, m', wh', by omega, by simp, p6.keep ((But.refl [] w6).drewN nq), by omega, HB.out.trans (below_two (s6.drewN nq) HB.out.size hk1 hk2')⟩
                case measure =>
                  simp [intOf]
                  omega
              · have hla3 : la < 0 := by omega
                have hlb : decide ((0 : Int) ≤ la) = false := by simp; omega
                clear hil hla
                go_wp2_with (first
                  | (go_at_call 15; refine HX.mono ?_; rintro e w6 ⟨rfl, b6⟩; have p6 := p5.below b6; have s6 := s5.trans (.of_below b6); obtain ⟨k60, k61, k62⟩ := c3b_on s6 hTS hSd; have hc0 := p6.r.c0; have hc2 := p6.r.c2; skip)
                  | (go_at_call 16; refine (rnext_any p6.r).mono ?_; rintro e w' ⟨rfl, hw⟩; subst w')
                  | (go_at_call 17; refine (HW _ p6.q).mono ?_; rintro e w' ⟨rfl, hw⟩; subst w'))
                go_quiet (fail)
                go_wp2_with fail
                go_roundw
                case rel => exact ⟨j + 1, m', wh', by omega, by simp, p6.keep ((But.refl [] w6).drewN nq), by omega, HB.out.trans (below_two (s6.drewN nq) HB.out.size hk1 hk2')⟩
                case measure =>
                  simp [intOf]
                  omega
            | true =>
              have HW : ∀ W, WQ W T N m' wh' → Calls Try.prog 17 #[.pointer (some ⟨T.B, 0, none⟩), .int .i64 la] W fun e w' => e = .returned (.tuple #[.int .i64 (wt wh' la.toNat : Nat), .bool (decide (wt wh' la.toNat ≠ 0))]) ∧ w' = W := fun W hW => by
                have := wwhen_any hW la
                rw [hil] at this
                exact this
              obtain ⟨k, rfl, hk⟩ := inN_out hil
              clear hil
              rw [Int.toNat_natCast] at HW
              have hk0 : (0 : Int) ≤ (k : Int) := by omega
              have hk4 : (k : Int) < (N : Int) := by omega
              by_cases hz : wt wh' k = 0
              · have HG : ∀ W, RQ W P N m' wh' → W.cell? ⟨P.G, k, none⟩ = some (.int .i64 0) := fun W hW => by have := hW.xg hk; rwa [hz] at this
                rw [hz] at HW
                have HW' : ∀ W, WQ W T N m' wh' → Calls Try.prog 17 #[.pointer (some ⟨T.B, 0, none⟩), .int .i64 (k : Int)] W fun e w' => e = .returned (.tuple #[.int .i64 0, .bool false]) ∧ w' = W := HW
                clear HW hz
                go_wp2_with (first
                  | (go_at_call 15; refine HX.mono ?_; rintro e w6 ⟨rfl, b6⟩; have p6 := p5.below b6; have s6 := s5.trans (.of_below b6); obtain ⟨k60, k61, k62⟩ := c3b_on s6 hTS hSd; have hc0 := p6.r.c0; have hc2 := p6.r.c2; have hcg := HG _ p6.r)
                  | (go_at_call 16; refine (rnext_any p6.r).mono ?_; rintro e w' ⟨rfl, hw⟩; subst w')
                  | (go_at_call 17; refine (HW' _ p6.q).mono ?_; rintro e w' ⟨rfl, hw⟩; subst w'))
                go_quiet (fail)
                go_wp2_with fail
                go_roundw
                case rel => exact ⟨j + 1, m', wh', by omega, by simp, p6.keep ((But.refl [] w6).drewN nq), by omega, HB.out.trans (below_two (s6.drewN nq) HB.out.size hk1 hk2')⟩
                case measure =>
                  simp [intOf]
                  omega
              · have HG : ∀ W, RQ W P N m' wh' → W.cell? ⟨P.G, k, none⟩ = some (.int .i64 (wt wh' k : Nat)) := fun W hW => hW.xg hk
                have hd : decide (wt wh' k ≠ 0) = true := by simpa using hz
                rw [hd] at HW
                obtain ⟨z, hzz⟩ : ∃ z : Int, ((wt wh' k : Nat) : Int) = z := ⟨_, rfl⟩
                have hz0 : 0 < z := by omega
                rw [hzz] at HW
                simp only [hzz] at HG
                clear hzz hd hz
                go_wp2_with (first
                  | (go_at_call 15; refine HX.mono ?_; rintro e w6 ⟨rfl, b6⟩; have p6 := p5.below b6; have s6 := s5.trans (.of_below b6); obtain ⟨k60, k61, k62⟩ := c3b_on s6 hTS hSd; have hc0 := p6.r.c0; have hc2 := p6.r.c2; have hcg := HG _ p6.r)
                  | (go_at_call 16; refine (rnext_any p6.r).mono ?_; rintro e w' ⟨rfl, hw⟩; subst w')
                  | (go_at_call 17; refine (HW _ p6.q).mono ?_; rintro e w' ⟨rfl, hw⟩; subst w'))
                go_quiet (fail)
                go_wp2_with fail
                go_roundw
                case rel => exact ⟨j + 1, m', wh', by omega, by simp, p6.keep ((But.refl [] w6).drewN nq), by omega, HB.out.trans (below_two (s6.drewN nq) HB.out.size hk1 hk2')⟩
                case measure =>
                  simp [intOf]
                  omega
        · obtain rfl : j = xs.length := by omega
          have hsz2 : (allL wh).length ≤ 4096 := by have := allL_le wh; have := hPr.q.len; omega
          have HA1 := wall_any hPr.q (tm_small (by omega))
          have HA2 : ∀ W, RQ W P N m wh → _ := fun W hW => rall_any hW
          have HR := hPr.r
          generalize allL wh = al at *
          go_wp2_with (first
            | (go_at_call 19; refine HA1.mono ?_; rintro e w6 ⟨v6, rfl, r6, b6⟩)
            | (go_at_call 14; refine (HA2 _ (HR.below b6)).mono ?_; rintro e w7 ⟨v7, rfl, r7, b7⟩; obtain ⟨a6, c6, rfl, i6⟩ := r6.open'; obtain ⟨a7, c7, rfl, i7⟩ := r7.open')
            | (go_at_call 18; refine (ints_drawn a6 a7 c6 c7 (ints al) _ (by rw [ints_len]; exact hsz2) (i6.below b7) i7).mono ?_; rintro e w8 ⟨rfl, d8⟩)
            | (go_at_call 8; refine (lives_any _).mono ?_; rintro e w9 ⟨rfl, b9⟩))
          go_ret
          refine ⟨rfl, ?_⟩
          have s7 := hB.trans ((b6.trans (b7.mono b6.size)).mono hB.size)
          have s8 := s7.trans ((But.to_below (Drawn.but (S := []) d8)).mono s7.size)
          exact s8.trans (b9.mono s8.size)
end Go.Proofs.Ytmjjghhlalaeiaa
