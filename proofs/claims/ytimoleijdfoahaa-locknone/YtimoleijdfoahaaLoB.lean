/- The contract of the statements' alike. -/
import Derived.Test.YtimoleijdfoahaaLoA
namespace Go.Proofs.Ytimoleijdfoahaa.Lo
open Go Go.RowKit Go.Proofs.Ytimoleijdfoahaa.Bs
open Go.Proofs.Ytimoleijdfoahaa.Lk (inN inN_of inN_out ints ints_iv ints_len iv)

section
variable {PL : World → Nat → List Nat → Nat → Nat → St → Prop} {W0 w w' : World} {B M n T : Nat} {Q Q' R R' : List Nat} {σ σ' τ : St}
set_option maxRecDepth 100000 in
set_option maxHeartbeats 4000000 in
theorem alike_in_in (S : Side PL) (h : Pr PL W0 w B Q M R n T σ σ) (kd t : Int) (k : Nat) (hk : k < n) (j : Nat) (hj : j < n) :
    Calls Try.prog 12 #[.pointer (some ⟨B, 0, none⟩), .pointer (some ⟨M, 0, none⟩), .agg #[.int .i64 kd, .int .i64 (k : Int), .int .i64 (j : Int), .int .i64 t]] w fun e w' => e = .returned (.bool true) ∧ Below w.heap.size w w' := by
  have hok := h.r.ok
  obtain ⟨-, ob, wb, sb, ab, vw, vs, hr⟩ := id h.r
  have KA : ∀ X, But [] w X → PL X B Q n T σ := fun X hX => S.keep h.a hX
  have C1 : ∀ X, But [] w X → _ := fun X hX => S.where_ (KA X hX) hok t
  have C2 : ∀ X, But [] w X → _ := fun X hX => where_any (hr.keep hX) hok t
  have C3 : ∀ X, But [] w X → _ := fun X hX => S.owner (KA X hX) hok (k : Int)
  have C4 : ∀ X, But [] w X → _ := fun X hX => S.waiters (KA X hX) hok (k : Int)
  have C5 : ∀ X, But [] w X → _ := fun X hX => S.sleepers (KA X hX) hok (j : Int)
  obtain ⟨z1, d1⟩ := hr.c1
  obtain ⟨z2, d2⟩ := hr.c2
  obtain ⟨z3, d3⟩ := hr.c3
  have hin : inO σ (k : Int) = true := inN_of (by rw [hok.ol]; exact hk)
  have e3 : owX σ (k : Int) = ow σ k := by unfold owX; rw [if_pos hin]; rfl
  have e4 : wX σ (k : Int) = W σ k := by unfold wX; rw [if_pos hin, Int.toNat_natCast]
  have ho0 : decide ((0 : Int) ≤ (k : Int)) = true := decide_eq_true (by omega)
  have ho1 : decide ((k : Int) < (n : Int)) = true := decide_eq_true (by omega)
  have ho2 : (0 : Int) ≤ (k : Int) := by omega
  have ho3 : (k : Int) < (n : Int) := by omega
  have d4 := hr.own hk
  obtain ⟨vW, d5, hvW⟩ := hr.wc hk
  have hlW := hok.wlen hk
  have rW : ∀ X, But [] w X → Rd X vW (ints (W σ k)) := fun X hX => hvW.rd.below hX.to_below
  obtain ⟨aW, cW, rfl, -⟩ := hvW.rd
  rw [e3] at C3
  rw [e4] at C4
  clear hvW e3 e4 hin
  have hjn : inO σ (j : Int) = true := inN_of (by rw [hok.ol]; exact hj)
  have e5 : sX σ (j : Int) = Lo.S σ j := by unfold sX; rw [if_pos hjn, Int.toNat_natCast]
  have hc0 : decide ((0 : Int) ≤ (j : Int)) = true := decide_eq_true (by omega)
  have hc1 : decide ((j : Int) < (n : Int)) = true := decide_eq_true (by omega)
  have hc2 : (0 : Int) ≤ (j : Int) := by omega
  have hc3 : (j : Int) < (n : Int) := by omega
  obtain ⟨vS, d6, hvS⟩ := hr.sc hj
  have hlS := hok.slen hj
  have rS : ∀ X, But [] w X → Rd X vS (ints (Lo.S σ j)) := fun X hX => hvS.rd.below hX.to_below
  obtain ⟨aS, cS, rfl, -⟩ := hvS.rd
  rw [e5] at C5
  clear hvS e5 hjn
  have IW : ∀ X v, But [] w X → Rd X v (ints (W σ k)) → Calls Try.prog 21 #[v, (.slice aW (ints (W σ k)).length cW)] X fun e w' => e = .returned (.bool true) ∧ Below X.heap.size X w' := fun X v hX hv => ints_two (by rw [ints_len]; omega) hv (rW X hX)
  have IS : ∀ X v, But [] w X → Rd X v (ints (Lo.S σ j)) → Calls Try.prog 21 #[v, (.slice aS (ints (Lo.S σ j)).length cS)] X fun e w' => e = .returned (.bool true) ∧ Below X.heap.size X w' := fun X v hX hv => ints_two (by rw [ints_len]; omega) hv (rS X hX)
  have A4 := At4.new w kd (k : Int) (j : Int) t
  have b1 : But [] w (w.alloc (.cells #[.int .i64 kd, .int .i64 (k : Int), .int .i64 (j : Int), .int .i64 t] 30)) := (But.refl [] w).alloc _
  have d1' : ∀ X, But [] w X → X.cell? ⟨M, 1, none⟩ = some (.slice (some ⟨ob, 0, none⟩) n z1) ∧ X.cell? ⟨M, 2, none⟩ = some (.slice (some ⟨wb, 0, none⟩) n z2) ∧ X.cell? ⟨M, 3, none⟩ = some (.slice (some ⟨sb, 0, none⟩) n z3) := fun X hX => ⟨hX.cell d1, hX.cell d2, hX.cell d3⟩
  have d4' : ∀ X, But [] w X → X.cell? ⟨ob, k, none⟩ = some (.int .i64 (ow σ k)) ∧ X.cell? ⟨wb, k, none⟩ = some (.slice aW (ints (W σ k)).length cW) := fun X hX => ⟨hX.cell d4, hX.cell d5⟩
  have d6' : ∀ X, But [] w X → X.cell? ⟨sb, j, none⟩ = some (.slice aS (ints (Lo.S σ j)).length cS) := fun X hX => hX.cell d6
  replace C1 := fun X hX => C1 X (b1.trans hX)
  replace C2 := fun X hX => C2 X (b1.trans hX)
  replace C3 := fun X hX => C3 X (b1.trans hX)
  replace C4 := fun X hX => C4 X (b1.trans hX)
  replace C5 := fun X hX => C5 X (b1.trans hX)
  replace IW := fun X v hX => IW X v (b1.trans hX)
  replace IS := fun X v hX => IS X v (b1.trans hX)
  replace d1' := fun X hX => d1' X (b1.trans hX)
  replace d4' := fun X hX => d4' X (b1.trans hX)
  replace d6' := fun X hX => d6' X (b1.trans hX)
  have CC := fun X (hX : But [] _ X) => A4.but hX (by simp)
  obtain ⟨c0, c1, c2, c3⟩ := A4
  clear h hok hr KA rW d4 d5 rS d6 d1 d2 d3
  generalize whereK σ t = wk at *
  generalize whereO σ t = wo at *
  have ek : (wk == wk) = true := by simp
  have eo : (wo == wo) = true := by simp
  generalize ow σ k = ox at *
  have ex : (ox == ox) = true := by simp
  generalize ints (W σ k) = qW at *
  generalize ints (Lo.S σ j) = qS at *
  go_enter Try.func12, Try.ntmps12
  go_upto_region 4 with (first
    | (go_at_call 16; (with_reducible refine (C1 _ (But.refl [] _)).mono ?_); rintro e w2 ⟨rfl, k2⟩; have b2 := But.of_below (S := []) k2; obtain ⟨_, c1', c2', c3'⟩ := CC _ b2)
    | (go_at_call 33; (with_reducible refine (C2 _ b2).mono ?_); rintro e w3 ⟨rfl, hw⟩; subst w3))
  obtain ⟨d1, d2, d3⟩ := d1' _ b2
  obtain ⟨d4, d5⟩ := d4' _ b2
  have d6 := d6' _ b2
  clear c0 c1 c2 c3 d1' C1 C2 d4' d6'
  go_quiet (fail)
  go_upto_region 5 with fail
  go_quiet (fail)
  go_upto_region 6 with fail
  go_quiet (fail)
  go_upto_region 7 with fail
  go_quiet (fail)
  have b3 := fun n0 => (b2.drewN n0)
  go_wp2_with (first
    | (go_at_call 13; (with_reducible refine (C3 _ (b3 _)).mono ?_); rintro e w4 ⟨rfl, k4⟩; have b4 := (b3 _).trans (.of_below k4); obtain ⟨_, c1x, c2x, _⟩ := CC _ b4)
    | (go_at_call 14; (with_reducible refine (C4 _ b4).mono ?_); rintro e w5 ⟨v5, rfl, r5, k5⟩; obtain ⟨x5, y5, rfl⟩ := own_shape r5; have b5 := b4.trans (.of_below k5); obtain ⟨_, _, c2y, _⟩ := CC _ b5)
    | (go_at_call 15; (with_reducible refine (C5 _ b6).mono ?_); rintro e w7 ⟨v7, rfl, r7, k7⟩; obtain ⟨x7, y7, rfl⟩ := own_shape r7; have b7 := b6.trans (.of_below k7))
    | (go_at_call 21; first
      | ((with_reducible refine (IS _ _ b7 r7.rd).mono ?_); rintro e w8 ⟨rfl, k8⟩; have b8 := b7.trans (.of_below k8))
      | ((with_reducible refine (IW _ _ b5 r5.rd).mono ?_); rintro e w6 ⟨rfl, k6⟩; have b6 := b5.trans (.of_below k6); obtain ⟨_, _, c2z, _⟩ := CC _ b6)))
  go_ret
  exact ⟨rfl, (b1.trans b8).to_below⟩
set_option maxRecDepth 100000 in
set_option maxHeartbeats 4000000 in
theorem alike_in_lo (S : Side PL) (h : Pr PL W0 w B Q M R n T σ σ) (kd t : Int) (k : Nat) (hk : k < n) (c : Int) (hc : c < 0) :
    Calls Try.prog 12 #[.pointer (some ⟨B, 0, none⟩), .pointer (some ⟨M, 0, none⟩), .agg #[.int .i64 kd, .int .i64 (k : Int), .int .i64 c, .int .i64 t]] w fun e w' => e = .returned (.bool true) ∧ Below w.heap.size w w' := by
  have hok := h.r.ok
  obtain ⟨-, ob, wb, sb, ab, vw, vs, hr⟩ := id h.r
  have KA : ∀ X, But [] w X → PL X B Q n T σ := fun X hX => S.keep h.a hX
  have C1 : ∀ X, But [] w X → _ := fun X hX => S.where_ (KA X hX) hok t
  have C2 : ∀ X, But [] w X → _ := fun X hX => where_any (hr.keep hX) hok t
  have C3 : ∀ X, But [] w X → _ := fun X hX => S.owner (KA X hX) hok (k : Int)
  have C4 : ∀ X, But [] w X → _ := fun X hX => S.waiters (KA X hX) hok (k : Int)
  have C5 : ∀ X, But [] w X → _ := fun X hX => S.sleepers (KA X hX) hok c
  obtain ⟨z1, d1⟩ := hr.c1
  obtain ⟨z2, d2⟩ := hr.c2
  obtain ⟨z3, d3⟩ := hr.c3
  have hin : inO σ (k : Int) = true := inN_of (by rw [hok.ol]; exact hk)
  have e3 : owX σ (k : Int) = ow σ k := by unfold owX; rw [if_pos hin]; rfl
  have e4 : wX σ (k : Int) = W σ k := by unfold wX; rw [if_pos hin, Int.toNat_natCast]
  have ho0 : decide ((0 : Int) ≤ (k : Int)) = true := decide_eq_true (by omega)
  have ho1 : decide ((k : Int) < (n : Int)) = true := decide_eq_true (by omega)
  have ho2 : (0 : Int) ≤ (k : Int) := by omega
  have ho3 : (k : Int) < (n : Int) := by omega
  have d4 := hr.own hk
  obtain ⟨vW, d5, hvW⟩ := hr.wc hk
  have hlW := hok.wlen hk
  have rW : ∀ X, But [] w X → Rd X vW (ints (W σ k)) := fun X hX => hvW.rd.below hX.to_below
  obtain ⟨aW, cW, rfl, -⟩ := hvW.rd
  rw [e3] at C3
  rw [e4] at C4
  clear hvW e3 e4 hin
  have hjn : inO σ c = false := by unfold inO inN; rw [hok.ol]; exact decide_eq_false (by omega)
  have e5 : sX σ c = [] := by unfold sX; rw [hjn]; rfl
  have hc0 : decide ((0 : Int) ≤ c) = false := decide_eq_false (by omega)
  
  rw [e5] at C5
  clear e5 hjn
  have IW : ∀ X v, But [] w X → Rd X v (ints (W σ k)) → Calls Try.prog 21 #[v, (.slice aW (ints (W σ k)).length cW)] X fun e w' => e = .returned (.bool true) ∧ Below X.heap.size X w' := fun X v hX hv => ints_two (by rw [ints_len]; omega) hv (rW X hX)
  have IS : ∀ X v, But [] w X → Rd X v (ints ([] : List Nat)) → Calls Try.prog 21 #[v, (.slice none 0 0)] X fun e w' => e = .returned (.bool true) ∧ Below X.heap.size X w' := fun X v hX hv => ints_two (by simp [ints]) hv ⟨none, 0, rfl, fun j x hx => by simp [ints] at hx⟩
  have A4 := At4.new w kd (k : Int) c t
  have b1 : But [] w (w.alloc (.cells #[.int .i64 kd, .int .i64 (k : Int), .int .i64 c, .int .i64 t] 30)) := (But.refl [] w).alloc _
  have d1' : ∀ X, But [] w X → X.cell? ⟨M, 1, none⟩ = some (.slice (some ⟨ob, 0, none⟩) n z1) ∧ X.cell? ⟨M, 2, none⟩ = some (.slice (some ⟨wb, 0, none⟩) n z2) ∧ X.cell? ⟨M, 3, none⟩ = some (.slice (some ⟨sb, 0, none⟩) n z3) := fun X hX => ⟨hX.cell d1, hX.cell d2, hX.cell d3⟩
  have d4' : ∀ X, But [] w X → X.cell? ⟨ob, k, none⟩ = some (.int .i64 (ow σ k)) ∧ X.cell? ⟨wb, k, none⟩ = some (.slice aW (ints (W σ k)).length cW) := fun X hX => ⟨hX.cell d4, hX.cell d5⟩
  replace C1 := fun X hX => C1 X (b1.trans hX)
  replace C2 := fun X hX => C2 X (b1.trans hX)
  replace C3 := fun X hX => C3 X (b1.trans hX)
  replace C4 := fun X hX => C4 X (b1.trans hX)
  replace C5 := fun X hX => C5 X (b1.trans hX)
  replace IW := fun X v hX => IW X v (b1.trans hX)
  replace IS := fun X v hX => IS X v (b1.trans hX)
  replace d1' := fun X hX => d1' X (b1.trans hX)
  replace d4' := fun X hX => d4' X (b1.trans hX)
  have CC := fun X (hX : But [] _ X) => A4.but hX (by simp)
  obtain ⟨c0, c1, c2, c3⟩ := A4
  clear h hok hr KA rW d4 d5 d1 d2 d3
  generalize whereK σ t = wk at *
  generalize whereO σ t = wo at *
  have ek : (wk == wk) = true := by simp
  have eo : (wo == wo) = true := by simp
  generalize ow σ k = ox at *
  have ex : (ox == ox) = true := by simp
  generalize ints (W σ k) = qW at *
  go_enter Try.func12, Try.ntmps12
  go_upto_region 4 with (first
    | (go_at_call 16; (with_reducible refine (C1 _ (But.refl [] _)).mono ?_); rintro e w2 ⟨rfl, k2⟩; have b2 := But.of_below (S := []) k2; obtain ⟨_, c1', c2', c3'⟩ := CC _ b2)
    | (go_at_call 33; (with_reducible refine (C2 _ b2).mono ?_); rintro e w3 ⟨rfl, hw⟩; subst w3))
  obtain ⟨d1, d2, d3⟩ := d1' _ b2
  obtain ⟨d4, d5⟩ := d4' _ b2
  clear c0 c1 c2 c3 d1' C1 C2 d4'
  go_quiet (fail)
  go_upto_region 5 with fail
  go_quiet (fail)
  go_upto_region 6 with fail
  go_quiet (fail)
  have b3 := fun n0 => (b2.drewN n0)
  go_wp2_with (first
    | (go_at_call 13; (with_reducible refine (C3 _ (b3 _)).mono ?_); rintro e w4 ⟨rfl, k4⟩; have b4 := (b3 _).trans (.of_below k4); obtain ⟨_, c1x, c2x, _⟩ := CC _ b4)
    | (go_at_call 14; (with_reducible refine (C4 _ b4).mono ?_); rintro e w5 ⟨v5, rfl, r5, k5⟩; obtain ⟨x5, y5, rfl⟩ := own_shape r5; have b5 := b4.trans (.of_below k5); obtain ⟨_, _, c2y, _⟩ := CC _ b5)
    | (go_at_call 15; (with_reducible refine (C5 _ b6).mono ?_); rintro e w7 ⟨v7, rfl, r7, k7⟩; obtain ⟨x7, y7, rfl⟩ := own_shape r7; have b7 := b6.trans (.of_below k7))
    | (go_at_call 21; first
      | ((with_reducible refine (IS _ _ b7 r7.rd).mono ?_); rintro e w8 ⟨rfl, k8⟩; have b8 := b7.trans (.of_below k8))
      | ((with_reducible refine (IW _ _ b5 r5.rd).mono ?_); rintro e w6 ⟨rfl, k6⟩; have b6 := b5.trans (.of_below k6); obtain ⟨_, _, c2z, _⟩ := CC _ b6)))
  go_ret
  exact ⟨rfl, (b1.trans b8).to_below⟩
set_option maxRecDepth 100000 in
set_option maxHeartbeats 4000000 in
theorem alike_in_hi (S : Side PL) (h : Pr PL W0 w B Q M R n T σ σ) (kd t : Int) (k : Nat) (hk : k < n) (c : Int) (hc : (n : Int) ≤ c) :
    Calls Try.prog 12 #[.pointer (some ⟨B, 0, none⟩), .pointer (some ⟨M, 0, none⟩), .agg #[.int .i64 kd, .int .i64 (k : Int), .int .i64 c, .int .i64 t]] w fun e w' => e = .returned (.bool true) ∧ Below w.heap.size w w' := by
  have hok := h.r.ok
  obtain ⟨-, ob, wb, sb, ab, vw, vs, hr⟩ := id h.r
  have KA : ∀ X, But [] w X → PL X B Q n T σ := fun X hX => S.keep h.a hX
  have C1 : ∀ X, But [] w X → _ := fun X hX => S.where_ (KA X hX) hok t
  have C2 : ∀ X, But [] w X → _ := fun X hX => where_any (hr.keep hX) hok t
  have C3 : ∀ X, But [] w X → _ := fun X hX => S.owner (KA X hX) hok (k : Int)
  have C4 : ∀ X, But [] w X → _ := fun X hX => S.waiters (KA X hX) hok (k : Int)
  have C5 : ∀ X, But [] w X → _ := fun X hX => S.sleepers (KA X hX) hok c
  obtain ⟨z1, d1⟩ := hr.c1
  obtain ⟨z2, d2⟩ := hr.c2
  obtain ⟨z3, d3⟩ := hr.c3
  have hin : inO σ (k : Int) = true := inN_of (by rw [hok.ol]; exact hk)
  have e3 : owX σ (k : Int) = ow σ k := by unfold owX; rw [if_pos hin]; rfl
  have e4 : wX σ (k : Int) = W σ k := by unfold wX; rw [if_pos hin, Int.toNat_natCast]
  have ho0 : decide ((0 : Int) ≤ (k : Int)) = true := decide_eq_true (by omega)
  have ho1 : decide ((k : Int) < (n : Int)) = true := decide_eq_true (by omega)
  have ho2 : (0 : Int) ≤ (k : Int) := by omega
  have ho3 : (k : Int) < (n : Int) := by omega
  have d4 := hr.own hk
  obtain ⟨vW, d5, hvW⟩ := hr.wc hk
  have hlW := hok.wlen hk
  have rW : ∀ X, But [] w X → Rd X vW (ints (W σ k)) := fun X hX => hvW.rd.below hX.to_below
  obtain ⟨aW, cW, rfl, -⟩ := hvW.rd
  rw [e3] at C3
  rw [e4] at C4
  clear hvW e3 e4 hin
  have hjn : inO σ c = false := by unfold inO inN; rw [hok.ol]; exact decide_eq_false (by omega)
  have e5 : sX σ c = [] := by unfold sX; rw [hjn]; rfl
  have hc0 : decide ((0 : Int) ≤ c) = true := decide_eq_true (by omega)
  have hc1 : decide (c < (n : Int)) = false := decide_eq_false (by omega)
  rw [e5] at C5
  clear e5 hjn
  have IW : ∀ X v, But [] w X → Rd X v (ints (W σ k)) → Calls Try.prog 21 #[v, (.slice aW (ints (W σ k)).length cW)] X fun e w' => e = .returned (.bool true) ∧ Below X.heap.size X w' := fun X v hX hv => ints_two (by rw [ints_len]; omega) hv (rW X hX)
  have IS : ∀ X v, But [] w X → Rd X v (ints ([] : List Nat)) → Calls Try.prog 21 #[v, (.slice none 0 0)] X fun e w' => e = .returned (.bool true) ∧ Below X.heap.size X w' := fun X v hX hv => ints_two (by simp [ints]) hv ⟨none, 0, rfl, fun j x hx => by simp [ints] at hx⟩
  have A4 := At4.new w kd (k : Int) c t
  have b1 : But [] w (w.alloc (.cells #[.int .i64 kd, .int .i64 (k : Int), .int .i64 c, .int .i64 t] 30)) := (But.refl [] w).alloc _
  have d1' : ∀ X, But [] w X → X.cell? ⟨M, 1, none⟩ = some (.slice (some ⟨ob, 0, none⟩) n z1) ∧ X.cell? ⟨M, 2, none⟩ = some (.slice (some ⟨wb, 0, none⟩) n z2) ∧ X.cell? ⟨M, 3, none⟩ = some (.slice (some ⟨sb, 0, none⟩) n z3) := fun X hX => ⟨hX.cell d1, hX.cell d2, hX.cell d3⟩
  have d4' : ∀ X, But [] w X → X.cell? ⟨ob, k, none⟩ = some (.int .i64 (ow σ k)) ∧ X.cell? ⟨wb, k, none⟩ = some (.slice aW (ints (W σ k)).length cW) := fun X hX => ⟨hX.cell d4, hX.cell d5⟩
  replace C1 := fun X hX => C1 X (b1.trans hX)
  replace C2 := fun X hX => C2 X (b1.trans hX)
  replace C3 := fun X hX => C3 X (b1.trans hX)
  replace C4 := fun X hX => C4 X (b1.trans hX)
  replace C5 := fun X hX => C5 X (b1.trans hX)
  replace IW := fun X v hX => IW X v (b1.trans hX)
  replace IS := fun X v hX => IS X v (b1.trans hX)
  replace d1' := fun X hX => d1' X (b1.trans hX)
  replace d4' := fun X hX => d4' X (b1.trans hX)
  have CC := fun X (hX : But [] _ X) => A4.but hX (by simp)
  obtain ⟨c0, c1, c2, c3⟩ := A4
  clear h hok hr KA rW d4 d5 d1 d2 d3
  generalize whereK σ t = wk at *
  generalize whereO σ t = wo at *
  have ek : (wk == wk) = true := by simp
  have eo : (wo == wo) = true := by simp
  generalize ow σ k = ox at *
  have ex : (ox == ox) = true := by simp
  generalize ints (W σ k) = qW at *
  go_enter Try.func12, Try.ntmps12
  go_upto_region 4 with (first
    | (go_at_call 16; (with_reducible refine (C1 _ (But.refl [] _)).mono ?_); rintro e w2 ⟨rfl, k2⟩; have b2 := But.of_below (S := []) k2; obtain ⟨_, c1', c2', c3'⟩ := CC _ b2)
    | (go_at_call 33; (with_reducible refine (C2 _ b2).mono ?_); rintro e w3 ⟨rfl, hw⟩; subst w3))
  obtain ⟨d1, d2, d3⟩ := d1' _ b2
  obtain ⟨d4, d5⟩ := d4' _ b2
  clear c0 c1 c2 c3 d1' C1 C2 d4'
  go_quiet (fail)
  go_upto_region 5 with fail
  go_quiet (fail)
  go_upto_region 6 with fail
  go_quiet (fail)
  have b3 := fun n0 => (b2.drewN n0)
  go_wp2_with (first
    | (go_at_call 13; (with_reducible refine (C3 _ (b3 _)).mono ?_); rintro e w4 ⟨rfl, k4⟩; have b4 := (b3 _).trans (.of_below k4); obtain ⟨_, c1x, c2x, _⟩ := CC _ b4)
    | (go_at_call 14; (with_reducible refine (C4 _ b4).mono ?_); rintro e w5 ⟨v5, rfl, r5, k5⟩; obtain ⟨x5, y5, rfl⟩ := own_shape r5; have b5 := b4.trans (.of_below k5); obtain ⟨_, _, c2y, _⟩ := CC _ b5)
    | (go_at_call 15; (with_reducible refine (C5 _ b6).mono ?_); rintro e w7 ⟨v7, rfl, r7, k7⟩; obtain ⟨x7, y7, rfl⟩ := own_shape r7; have b7 := b6.trans (.of_below k7))
    | (go_at_call 21; first
      | ((with_reducible refine (IS _ _ b7 r7.rd).mono ?_); rintro e w8 ⟨rfl, k8⟩; have b8 := b7.trans (.of_below k8))
      | ((with_reducible refine (IW _ _ b5 r5.rd).mono ?_); rintro e w6 ⟨rfl, k6⟩; have b6 := b5.trans (.of_below k6); obtain ⟨_, _, c2z, _⟩ := CC _ b6)))
  go_ret
  exact ⟨rfl, (b1.trans b8).to_below⟩
set_option maxRecDepth 100000 in
set_option maxHeartbeats 4000000 in
theorem alike_lo_in (S : Side PL) (h : Pr PL W0 w B Q M R n T σ σ) (kd t : Int) (o : Int) (ho : o < 0) (j : Nat) (hj : j < n) :
    Calls Try.prog 12 #[.pointer (some ⟨B, 0, none⟩), .pointer (some ⟨M, 0, none⟩), .agg #[.int .i64 kd, .int .i64 o, .int .i64 (j : Int), .int .i64 t]] w fun e w' => e = .returned (.bool true) ∧ Below w.heap.size w w' := by
  have hok := h.r.ok
  obtain ⟨-, ob, wb, sb, ab, vw, vs, hr⟩ := id h.r
  have KA : ∀ X, But [] w X → PL X B Q n T σ := fun X hX => S.keep h.a hX
  have C1 : ∀ X, But [] w X → _ := fun X hX => S.where_ (KA X hX) hok t
  have C2 : ∀ X, But [] w X → _ := fun X hX => where_any (hr.keep hX) hok t
  have C3 : ∀ X, But [] w X → _ := fun X hX => S.owner (KA X hX) hok o
  have C4 : ∀ X, But [] w X → _ := fun X hX => S.waiters (KA X hX) hok o
  have C5 : ∀ X, But [] w X → _ := fun X hX => S.sleepers (KA X hX) hok (j : Int)
  obtain ⟨z1, d1⟩ := hr.c1
  obtain ⟨z2, d2⟩ := hr.c2
  obtain ⟨z3, d3⟩ := hr.c3
  have hin : inO σ o = false := by unfold inO inN; rw [hok.ol]; exact decide_eq_false (by omega)
  have e3 : owX σ o = -1 := by unfold owX; rw [hin]; rfl
  have e4 : wX σ o = [] := by unfold wX; rw [hin]; rfl
  have ho0 : decide ((0 : Int) ≤ o) = false := decide_eq_false (by omega)
  
  rw [e3] at C3
  rw [e4] at C4
  clear e3 e4 hin
  have hjn : inO σ (j : Int) = true := inN_of (by rw [hok.ol]; exact hj)
  have e5 : sX σ (j : Int) = Lo.S σ j := by unfold sX; rw [if_pos hjn, Int.toNat_natCast]
  have hc0 : decide ((0 : Int) ≤ (j : Int)) = true := decide_eq_true (by omega)
  have hc1 : decide ((j : Int) < (n : Int)) = true := decide_eq_true (by omega)
  have hc2 : (0 : Int) ≤ (j : Int) := by omega
  have hc3 : (j : Int) < (n : Int) := by omega
  obtain ⟨vS, d6, hvS⟩ := hr.sc hj
  have hlS := hok.slen hj
  have rS : ∀ X, But [] w X → Rd X vS (ints (Lo.S σ j)) := fun X hX => hvS.rd.below hX.to_below
  obtain ⟨aS, cS, rfl, -⟩ := hvS.rd
  rw [e5] at C5
  clear hvS e5 hjn
  have IW : ∀ X v, But [] w X → Rd X v (ints ([] : List Nat)) → Calls Try.prog 21 #[v, (.slice none 0 0)] X fun e w' => e = .returned (.bool true) ∧ Below X.heap.size X w' := fun X v hX hv => ints_two (by simp [ints]) hv ⟨none, 0, rfl, fun j x hx => by simp [ints] at hx⟩
  have IS : ∀ X v, But [] w X → Rd X v (ints (Lo.S σ j)) → Calls Try.prog 21 #[v, (.slice aS (ints (Lo.S σ j)).length cS)] X fun e w' => e = .returned (.bool true) ∧ Below X.heap.size X w' := fun X v hX hv => ints_two (by rw [ints_len]; omega) hv (rS X hX)
  have A4 := At4.new w kd o (j : Int) t
  have b1 : But [] w (w.alloc (.cells #[.int .i64 kd, .int .i64 o, .int .i64 (j : Int), .int .i64 t] 30)) := (But.refl [] w).alloc _
  have d1' : ∀ X, But [] w X → X.cell? ⟨M, 1, none⟩ = some (.slice (some ⟨ob, 0, none⟩) n z1) ∧ X.cell? ⟨M, 2, none⟩ = some (.slice (some ⟨wb, 0, none⟩) n z2) ∧ X.cell? ⟨M, 3, none⟩ = some (.slice (some ⟨sb, 0, none⟩) n z3) := fun X hX => ⟨hX.cell d1, hX.cell d2, hX.cell d3⟩
  have d6' : ∀ X, But [] w X → X.cell? ⟨sb, j, none⟩ = some (.slice aS (ints (Lo.S σ j)).length cS) := fun X hX => hX.cell d6
  replace C1 := fun X hX => C1 X (b1.trans hX)
  replace C2 := fun X hX => C2 X (b1.trans hX)
  replace C3 := fun X hX => C3 X (b1.trans hX)
  replace C4 := fun X hX => C4 X (b1.trans hX)
  replace C5 := fun X hX => C5 X (b1.trans hX)
  replace IW := fun X v hX => IW X v (b1.trans hX)
  replace IS := fun X v hX => IS X v (b1.trans hX)
  replace d1' := fun X hX => d1' X (b1.trans hX)
  replace d6' := fun X hX => d6' X (b1.trans hX)
  have CC := fun X (hX : But [] _ X) => A4.but hX (by simp)
  obtain ⟨c0, c1, c2, c3⟩ := A4
  clear h hok hr KA rS d6 d1 d2 d3
  generalize whereK σ t = wk at *
  generalize whereO σ t = wo at *
  have ek : (wk == wk) = true := by simp
  have eo : (wo == wo) = true := by simp
  generalize ints (Lo.S σ j) = qS at *
  go_enter Try.func12, Try.ntmps12
  go_upto_region 4 with (first
    | (go_at_call 16; (with_reducible refine (C1 _ (But.refl [] _)).mono ?_); rintro e w2 ⟨rfl, k2⟩; have b2 := But.of_below (S := []) k2; obtain ⟨_, c1', c2', c3'⟩ := CC _ b2)
    | (go_at_call 33; (with_reducible refine (C2 _ b2).mono ?_); rintro e w3 ⟨rfl, hw⟩; subst w3))
  obtain ⟨d1, d2, d3⟩ := d1' _ b2
  have d6 := d6' _ b2
  clear c0 c1 c2 c3 d1' C1 C2 d6'
  go_quiet (fail)
  go_upto_region 6 with fail
  go_quiet (fail)
  go_upto_region 7 with fail
  go_quiet (fail)
  have b3 := fun n0 => (b2.drewN n0)
  go_wp2_with (first
    | (go_at_call 13; (with_reducible refine (C3 _ (b3 _)).mono ?_); rintro e w4 ⟨rfl, k4⟩; have b4 := (b3 _).trans (.of_below k4); obtain ⟨_, c1x, c2x, _⟩ := CC _ b4)
    | (go_at_call 14; (with_reducible refine (C4 _ b4).mono ?_); rintro e w5 ⟨v5, rfl, r5, k5⟩; obtain ⟨x5, y5, rfl⟩ := own_shape r5; have b5 := b4.trans (.of_below k5); obtain ⟨_, _, c2y, _⟩ := CC _ b5)
    | (go_at_call 15; (with_reducible refine (C5 _ b6).mono ?_); rintro e w7 ⟨v7, rfl, r7, k7⟩; obtain ⟨x7, y7, rfl⟩ := own_shape r7; have b7 := b6.trans (.of_below k7))
    | (go_at_call 21; first
      | ((with_reducible refine (IS _ _ b7 r7.rd).mono ?_); rintro e w8 ⟨rfl, k8⟩; have b8 := b7.trans (.of_below k8))
      | ((with_reducible refine (IW _ _ b5 r5.rd).mono ?_); rintro e w6 ⟨rfl, k6⟩; have b6 := b5.trans (.of_below k6); obtain ⟨_, _, c2z, _⟩ := CC _ b6)))
  go_ret
  exact ⟨rfl, (b1.trans b8).to_below⟩
set_option maxRecDepth 100000 in
set_option maxHeartbeats 4000000 in
theorem alike_lo_lo (S : Side PL) (h : Pr PL W0 w B Q M R n T σ σ) (kd t : Int) (o : Int) (ho : o < 0) (c : Int) (hc : c < 0) :
    Calls Try.prog 12 #[.pointer (some ⟨B, 0, none⟩), .pointer (some ⟨M, 0, none⟩), .agg #[.int .i64 kd, .int .i64 o, .int .i64 c, .int .i64 t]] w fun e w' => e = .returned (.bool true) ∧ Below w.heap.size w w' := by
  have hok := h.r.ok
  obtain ⟨-, ob, wb, sb, ab, vw, vs, hr⟩ := id h.r
  have KA : ∀ X, But [] w X → PL X B Q n T σ := fun X hX => S.keep h.a hX
  have C1 : ∀ X, But [] w X → _ := fun X hX => S.where_ (KA X hX) hok t
  have C2 : ∀ X, But [] w X → _ := fun X hX => where_any (hr.keep hX) hok t
  have C3 : ∀ X, But [] w X → _ := fun X hX => S.owner (KA X hX) hok o
  have C4 : ∀ X, But [] w X → _ := fun X hX => S.waiters (KA X hX) hok o
  have C5 : ∀ X, But [] w X → _ := fun X hX => S.sleepers (KA X hX) hok c
  obtain ⟨z1, d1⟩ := hr.c1
  obtain ⟨z2, d2⟩ := hr.c2
  obtain ⟨z3, d3⟩ := hr.c3
  have hin : inO σ o = false := by unfold inO inN; rw [hok.ol]; exact decide_eq_false (by omega)
  have e3 : owX σ o = -1 := by unfold owX; rw [hin]; rfl
  have e4 : wX σ o = [] := by unfold wX; rw [hin]; rfl
  have ho0 : decide ((0 : Int) ≤ o) = false := decide_eq_false (by omega)
  
  rw [e3] at C3
  rw [e4] at C4
  clear e3 e4 hin
  have hjn : inO σ c = false := by unfold inO inN; rw [hok.ol]; exact decide_eq_false (by omega)
  have e5 : sX σ c = [] := by unfold sX; rw [hjn]; rfl
  have hc0 : decide ((0 : Int) ≤ c) = false := decide_eq_false (by omega)
  
  rw [e5] at C5
  clear e5 hjn
  have IW : ∀ X v, But [] w X → Rd X v (ints ([] : List Nat)) → Calls Try.prog 21 #[v, (.slice none 0 0)] X fun e w' => e = .returned (.bool true) ∧ Below X.heap.size X w' := fun X v hX hv => ints_two (by simp [ints]) hv ⟨none, 0, rfl, fun j x hx => by simp [ints] at hx⟩
  have IS : ∀ X v, But [] w X → Rd X v (ints ([] : List Nat)) → Calls Try.prog 21 #[v, (.slice none 0 0)] X fun e w' => e = .returned (.bool true) ∧ Below X.heap.size X w' := fun X v hX hv => ints_two (by simp [ints]) hv ⟨none, 0, rfl, fun j x hx => by simp [ints] at hx⟩
  have A4 := At4.new w kd o c t
  have b1 : But [] w (w.alloc (.cells #[.int .i64 kd, .int .i64 o, .int .i64 c, .int .i64 t] 30)) := (But.refl [] w).alloc _
  have d1' : ∀ X, But [] w X → X.cell? ⟨M, 1, none⟩ = some (.slice (some ⟨ob, 0, none⟩) n z1) ∧ X.cell? ⟨M, 2, none⟩ = some (.slice (some ⟨wb, 0, none⟩) n z2) ∧ X.cell? ⟨M, 3, none⟩ = some (.slice (some ⟨sb, 0, none⟩) n z3) := fun X hX => ⟨hX.cell d1, hX.cell d2, hX.cell d3⟩
  replace C1 := fun X hX => C1 X (b1.trans hX)
  replace C2 := fun X hX => C2 X (b1.trans hX)
  replace C3 := fun X hX => C3 X (b1.trans hX)
  replace C4 := fun X hX => C4 X (b1.trans hX)
  replace C5 := fun X hX => C5 X (b1.trans hX)
  replace IW := fun X v hX => IW X v (b1.trans hX)
  replace IS := fun X v hX => IS X v (b1.trans hX)
  replace d1' := fun X hX => d1' X (b1.trans hX)
  have CC := fun X (hX : But [] _ X) => A4.but hX (by simp)
  obtain ⟨c0, c1, c2, c3⟩ := A4
  clear h hok hr KA d1 d2 d3
  generalize whereK σ t = wk at *
  generalize whereO σ t = wo at *
  have ek : (wk == wk) = true := by simp
  have eo : (wo == wo) = true := by simp
  go_enter Try.func12, Try.ntmps12
  go_upto_region 4 with (first
    | (go_at_call 16; (with_reducible refine (C1 _ (But.refl [] _)).mono ?_); rintro e w2 ⟨rfl, k2⟩; have b2 := But.of_below (S := []) k2; obtain ⟨_, c1', c2', c3'⟩ := CC _ b2)
    | (go_at_call 33; (with_reducible refine (C2 _ b2).mono ?_); rintro e w3 ⟨rfl, hw⟩; subst w3))
  obtain ⟨d1, d2, d3⟩ := d1' _ b2
  clear c0 c1 c2 c3 d1' C1 C2
  go_quiet (fail)
  go_upto_region 6 with fail
  go_quiet (fail)
  have b3 := fun n0 => (b2.drewN n0)
  go_wp2_with (first
    | (go_at_call 13; (with_reducible refine (C3 _ (b3 _)).mono ?_); rintro e w4 ⟨rfl, k4⟩; have b4 := (b3 _).trans (.of_below k4); obtain ⟨_, c1x, c2x, _⟩ := CC _ b4)
    | (go_at_call 14; (with_reducible refine (C4 _ b4).mono ?_); rintro e w5 ⟨v5, rfl, r5, k5⟩; obtain ⟨x5, y5, rfl⟩ := own_shape r5; have b5 := b4.trans (.of_below k5); obtain ⟨_, _, c2y, _⟩ := CC _ b5)
    | (go_at_call 15; (with_reducible refine (C5 _ b6).mono ?_); rintro e w7 ⟨v7, rfl, r7, k7⟩; obtain ⟨x7, y7, rfl⟩ := own_shape r7; have b7 := b6.trans (.of_below k7))
    | (go_at_call 21; first
      | ((with_reducible refine (IS _ _ b7 r7.rd).mono ?_); rintro e w8 ⟨rfl, k8⟩; have b8 := b7.trans (.of_below k8))
      | ((with_reducible refine (IW _ _ b5 r5.rd).mono ?_); rintro e w6 ⟨rfl, k6⟩; have b6 := b5.trans (.of_below k6); obtain ⟨_, _, c2z, _⟩ := CC _ b6)))
  go_ret
  exact ⟨rfl, (b1.trans b8).to_below⟩
set_option maxRecDepth 100000 in
set_option maxHeartbeats 4000000 in
theorem alike_lo_hi (S : Side PL) (h : Pr PL W0 w B Q M R n T σ σ) (kd t : Int) (o : Int) (ho : o < 0) (c : Int) (hc : (n : Int) ≤ c) :
    Calls Try.prog 12 #[.pointer (some ⟨B, 0, none⟩), .pointer (some ⟨M, 0, none⟩), .agg #[.int .i64 kd, .int .i64 o, .int .i64 c, .int .i64 t]] w fun e w' => e = .returned (.bool true) ∧ Below w.heap.size w w' := by
  have hok := h.r.ok
  obtain ⟨-, ob, wb, sb, ab, vw, vs, hr⟩ := id h.r
  have KA : ∀ X, But [] w X → PL X B Q n T σ := fun X hX => S.keep h.a hX
  have C1 : ∀ X, But [] w X → _ := fun X hX => S.where_ (KA X hX) hok t
  have C2 : ∀ X, But [] w X → _ := fun X hX => where_any (hr.keep hX) hok t
  have C3 : ∀ X, But [] w X → _ := fun X hX => S.owner (KA X hX) hok o
  have C4 : ∀ X, But [] w X → _ := fun X hX => S.waiters (KA X hX) hok o
  have C5 : ∀ X, But [] w X → _ := fun X hX => S.sleepers (KA X hX) hok c
  obtain ⟨z1, d1⟩ := hr.c1
  obtain ⟨z2, d2⟩ := hr.c2
  obtain ⟨z3, d3⟩ := hr.c3
  have hin : inO σ o = false := by unfold inO inN; rw [hok.ol]; exact decide_eq_false (by omega)
  have e3 : owX σ o = -1 := by unfold owX; rw [hin]; rfl
  have e4 : wX σ o = [] := by unfold wX; rw [hin]; rfl
  have ho0 : decide ((0 : Int) ≤ o) = false := decide_eq_false (by omega)
  
  rw [e3] at C3
  rw [e4] at C4
  clear e3 e4 hin
  have hjn : inO σ c = false := by unfold inO inN; rw [hok.ol]; exact decide_eq_false (by omega)
  have e5 : sX σ c = [] := by unfold sX; rw [hjn]; rfl
  have hc0 : decide ((0 : Int) ≤ c) = true := decide_eq_true (by omega)
  have hc1 : decide (c < (n : Int)) = false := decide_eq_false (by omega)
  rw [e5] at C5
  clear e5 hjn
  have IW : ∀ X v, But [] w X → Rd X v (ints ([] : List Nat)) → Calls Try.prog 21 #[v, (.slice none 0 0)] X fun e w' => e = .returned (.bool true) ∧ Below X.heap.size X w' := fun X v hX hv => ints_two (by simp [ints]) hv ⟨none, 0, rfl, fun j x hx => by simp [ints] at hx⟩
  have IS : ∀ X v, But [] w X → Rd X v (ints ([] : List Nat)) → Calls Try.prog 21 #[v, (.slice none 0 0)] X fun e w' => e = .returned (.bool true) ∧ Below X.heap.size X w' := fun X v hX hv => ints_two (by simp [ints]) hv ⟨none, 0, rfl, fun j x hx => by simp [ints] at hx⟩
  have A4 := At4.new w kd o c t
  have b1 : But [] w (w.alloc (.cells #[.int .i64 kd, .int .i64 o, .int .i64 c, .int .i64 t] 30)) := (But.refl [] w).alloc _
  have d1' : ∀ X, But [] w X → X.cell? ⟨M, 1, none⟩ = some (.slice (some ⟨ob, 0, none⟩) n z1) ∧ X.cell? ⟨M, 2, none⟩ = some (.slice (some ⟨wb, 0, none⟩) n z2) ∧ X.cell? ⟨M, 3, none⟩ = some (.slice (some ⟨sb, 0, none⟩) n z3) := fun X hX => ⟨hX.cell d1, hX.cell d2, hX.cell d3⟩
  replace C1 := fun X hX => C1 X (b1.trans hX)
  replace C2 := fun X hX => C2 X (b1.trans hX)
  replace C3 := fun X hX => C3 X (b1.trans hX)
  replace C4 := fun X hX => C4 X (b1.trans hX)
  replace C5 := fun X hX => C5 X (b1.trans hX)
  replace IW := fun X v hX => IW X v (b1.trans hX)
  replace IS := fun X v hX => IS X v (b1.trans hX)
  replace d1' := fun X hX => d1' X (b1.trans hX)
  have CC := fun X (hX : But [] _ X) => A4.but hX (by simp)
  obtain ⟨c0, c1, c2, c3⟩ := A4
  clear h hok hr KA d1 d2 d3
  generalize whereK σ t = wk at *
  generalize whereO σ t = wo at *
  have ek : (wk == wk) = true := by simp
  have eo : (wo == wo) = true := by simp
  go_enter Try.func12, Try.ntmps12
  go_upto_region 4 with (first
    | (go_at_call 16; (with_reducible refine (C1 _ (But.refl [] _)).mono ?_); rintro e w2 ⟨rfl, k2⟩; have b2 := But.of_below (S := []) k2; obtain ⟨_, c1', c2', c3'⟩ := CC _ b2)
    | (go_at_call 33; (with_reducible refine (C2 _ b2).mono ?_); rintro e w3 ⟨rfl, hw⟩; subst w3))
  obtain ⟨d1, d2, d3⟩ := d1' _ b2
  clear c0 c1 c2 c3 d1' C1 C2
  go_quiet (fail)
  go_upto_region 6 with fail
  go_quiet (fail)
  have b3 := fun n0 => (b2.drewN n0)
  go_wp2_with (first
    | (go_at_call 13; (with_reducible refine (C3 _ (b3 _)).mono ?_); rintro e w4 ⟨rfl, k4⟩; have b4 := (b3 _).trans (.of_below k4); obtain ⟨_, c1x, c2x, _⟩ := CC _ b4)
    | (go_at_call 14; (with_reducible refine (C4 _ b4).mono ?_); rintro e w5 ⟨v5, rfl, r5, k5⟩; obtain ⟨x5, y5, rfl⟩ := own_shape r5; have b5 := b4.trans (.of_below k5); obtain ⟨_, _, c2y, _⟩ := CC _ b5)
    | (go_at_call 15; (with_reducible refine (C5 _ b6).mono ?_); rintro e w7 ⟨v7, rfl, r7, k7⟩; obtain ⟨x7, y7, rfl⟩ := own_shape r7; have b7 := b6.trans (.of_below k7))
    | (go_at_call 21; first
      | ((with_reducible refine (IS _ _ b7 r7.rd).mono ?_); rintro e w8 ⟨rfl, k8⟩; have b8 := b7.trans (.of_below k8))
      | ((with_reducible refine (IW _ _ b5 r5.rd).mono ?_); rintro e w6 ⟨rfl, k6⟩; have b6 := b5.trans (.of_below k6); obtain ⟨_, _, c2z, _⟩ := CC _ b6)))
  go_ret
  exact ⟨rfl, (b1.trans b8).to_below⟩
set_option maxRecDepth 100000 in
set_option maxHeartbeats 4000000 in
theorem alike_hi_in (S : Side PL) (h : Pr PL W0 w B Q M R n T σ σ) (kd t : Int) (o : Int) (ho : (n : Int) ≤ o) (j : Nat) (hj : j < n) :
    Calls Try.prog 12 #[.pointer (some ⟨B, 0, none⟩), .pointer (some ⟨M, 0, none⟩), .agg #[.int .i64 kd, .int .i64 o, .int .i64 (j : Int), .int .i64 t]] w fun e w' => e = .returned (.bool true) ∧ Below w.heap.size w w' := by
  have hok := h.r.ok
  obtain ⟨-, ob, wb, sb, ab, vw, vs, hr⟩ := id h.r
  have KA : ∀ X, But [] w X → PL X B Q n T σ := fun X hX => S.keep h.a hX
  have C1 : ∀ X, But [] w X → _ := fun X hX => S.where_ (KA X hX) hok t
  have C2 : ∀ X, But [] w X → _ := fun X hX => where_any (hr.keep hX) hok t
  have C3 : ∀ X, But [] w X → _ := fun X hX => S.owner (KA X hX) hok o
  have C4 : ∀ X, But [] w X → _ := fun X hX => S.waiters (KA X hX) hok o
  have C5 : ∀ X, But [] w X → _ := fun X hX => S.sleepers (KA X hX) hok (j : Int)
  obtain ⟨z1, d1⟩ := hr.c1
  obtain ⟨z2, d2⟩ := hr.c2
  obtain ⟨z3, d3⟩ := hr.c3
  have hin : inO σ o = false := by unfold inO inN; rw [hok.ol]; exact decide_eq_false (by omega)
  have e3 : owX σ o = -1 := by unfold owX; rw [hin]; rfl
  have e4 : wX σ o = [] := by unfold wX; rw [hin]; rfl
  have ho0 : decide ((0 : Int) ≤ o) = true := decide_eq_true (by omega)
  have ho1 : decide (o < (n : Int)) = false := decide_eq_false (by omega)
  rw [e3] at C3
  rw [e4] at C4
  clear e3 e4 hin
  have hjn : inO σ (j : Int) = true := inN_of (by rw [hok.ol]; exact hj)
  have e5 : sX σ (j : Int) = Lo.S σ j := by unfold sX; rw [if_pos hjn, Int.toNat_natCast]
  have hc0 : decide ((0 : Int) ≤ (j : Int)) = true := decide_eq_true (by omega)
  have hc1 : decide ((j : Int) < (n : Int)) = true := decide_eq_true (by omega)
  have hc2 : (0 : Int) ≤ (j : Int) := by omega
  have hc3 : (j : Int) < (n : Int) := by omega
  obtain ⟨vS, d6, hvS⟩ := hr.sc hj
  have hlS := hok.slen hj
  have rS : ∀ X, But [] w X → Rd X vS (ints (Lo.S σ j)) := fun X hX => hvS.rd.below hX.to_below
  obtain ⟨aS, cS, rfl, -⟩ := hvS.rd
  rw [e5] at C5
  clear hvS e5 hjn
  have IW : ∀ X v, But [] w X → Rd X v (ints ([] : List Nat)) → Calls Try.prog 21 #[v, (.slice none 0 0)] X fun e w' => e = .returned (.bool true) ∧ Below X.heap.size X w' := fun X v hX hv => ints_two (by simp [ints]) hv ⟨none, 0, rfl, fun j x hx => by simp [ints] at hx⟩
  have IS : ∀ X v, But [] w X → Rd X v (ints (Lo.S σ j)) → Calls Try.prog 21 #[v, (.slice aS (ints (Lo.S σ j)).length cS)] X fun e w' => e = .returned (.bool true) ∧ Below X.heap.size X w' := fun X v hX hv => ints_two (by rw [ints_len]; omega) hv (rS X hX)
  have A4 := At4.new w kd o (j : Int) t
  have b1 : But [] w (w.alloc (.cells #[.int .i64 kd, .int .i64 o, .int .i64 (j : Int), .int .i64 t] 30)) := (But.refl [] w).alloc _
  have d1' : ∀ X, But [] w X → X.cell? ⟨M, 1, none⟩ = some (.slice (some ⟨ob, 0, none⟩) n z1) ∧ X.cell? ⟨M, 2, none⟩ = some (.slice (some ⟨wb, 0, none⟩) n z2) ∧ X.cell? ⟨M, 3, none⟩ = some (.slice (some ⟨sb, 0, none⟩) n z3) := fun X hX => ⟨hX.cell d1, hX.cell d2, hX.cell d3⟩
  have d6' : ∀ X, But [] w X → X.cell? ⟨sb, j, none⟩ = some (.slice aS (ints (Lo.S σ j)).length cS) := fun X hX => hX.cell d6
  replace C1 := fun X hX => C1 X (b1.trans hX)
  replace C2 := fun X hX => C2 X (b1.trans hX)
  replace C3 := fun X hX => C3 X (b1.trans hX)
  replace C4 := fun X hX => C4 X (b1.trans hX)
  replace C5 := fun X hX => C5 X (b1.trans hX)
  replace IW := fun X v hX => IW X v (b1.trans hX)
  replace IS := fun X v hX => IS X v (b1.trans hX)
  replace d1' := fun X hX => d1' X (b1.trans hX)
  replace d6' := fun X hX => d6' X (b1.trans hX)
  have CC := fun X (hX : But [] _ X) => A4.but hX (by simp)
  obtain ⟨c0, c1, c2, c3⟩ := A4
  clear h hok hr KA rS d6 d1 d2 d3
  generalize whereK σ t = wk at *
  generalize whereO σ t = wo at *
  have ek : (wk == wk) = true := by simp
  have eo : (wo == wo) = true := by simp
  generalize ints (Lo.S σ j) = qS at *
  go_enter Try.func12, Try.ntmps12
  go_upto_region 4 with (first
    | (go_at_call 16; (with_reducible refine (C1 _ (But.refl [] _)).mono ?_); rintro e w2 ⟨rfl, k2⟩; have b2 := But.of_below (S := []) k2; obtain ⟨_, c1', c2', c3'⟩ := CC _ b2)
    | (go_at_call 33; (with_reducible refine (C2 _ b2).mono ?_); rintro e w3 ⟨rfl, hw⟩; subst w3))
  obtain ⟨d1, d2, d3⟩ := d1' _ b2
  have d6 := d6' _ b2
  clear c0 c1 c2 c3 d1' C1 C2 d6'
  go_quiet (fail)
  go_upto_region 6 with fail
  go_quiet (fail)
  go_upto_region 7 with fail
  go_quiet (fail)
  have b3 := fun n0 => (b2.drewN n0)
  go_wp2_with (first
    | (go_at_call 13; (with_reducible refine (C3 _ (b3 _)).mono ?_); rintro e w4 ⟨rfl, k4⟩; have b4 := (b3 _).trans (.of_below k4); obtain ⟨_, c1x, c2x, _⟩ := CC _ b4)
    | (go_at_call 14; (with_reducible refine (C4 _ b4).mono ?_); rintro e w5 ⟨v5, rfl, r5, k5⟩; obtain ⟨x5, y5, rfl⟩ := own_shape r5; have b5 := b4.trans (.of_below k5); obtain ⟨_, _, c2y, _⟩ := CC _ b5)
    | (go_at_call 15; (with_reducible refine (C5 _ b6).mono ?_); rintro e w7 ⟨v7, rfl, r7, k7⟩; obtain ⟨x7, y7, rfl⟩ := own_shape r7; have b7 := b6.trans (.of_below k7))
    | (go_at_call 21; first
      | ((with_reducible refine (IS _ _ b7 r7.rd).mono ?_); rintro e w8 ⟨rfl, k8⟩; have b8 := b7.trans (.of_below k8))
      | ((with_reducible refine (IW _ _ b5 r5.rd).mono ?_); rintro e w6 ⟨rfl, k6⟩; have b6 := b5.trans (.of_below k6); obtain ⟨_, _, c2z, _⟩ := CC _ b6)))
  go_ret
  exact ⟨rfl, (b1.trans b8).to_below⟩
set_option maxRecDepth 100000 in
set_option maxHeartbeats 4000000 in
theorem alike_hi_lo (S : Side PL) (h : Pr PL W0 w B Q M R n T σ σ) (kd t : Int) (o : Int) (ho : (n : Int) ≤ o) (c : Int) (hc : c < 0) :
    Calls Try.prog 12 #[.pointer (some ⟨B, 0, none⟩), .pointer (some ⟨M, 0, none⟩), .agg #[.int .i64 kd, .int .i64 o, .int .i64 c, .int .i64 t]] w fun e w' => e = .returned (.bool true) ∧ Below w.heap.size w w' := by
  have hok := h.r.ok
  obtain ⟨-, ob, wb, sb, ab, vw, vs, hr⟩ := id h.r
  have KA : ∀ X, But [] w X → PL X B Q n T σ := fun X hX => S.keep h.a hX
  have C1 : ∀ X, But [] w X → _ := fun X hX => S.where_ (KA X hX) hok t
  have C2 : ∀ X, But [] w X → _ := fun X hX => where_any (hr.keep hX) hok t
  have C3 : ∀ X, But [] w X → _ := fun X hX => S.owner (KA X hX) hok o
  have C4 : ∀ X, But [] w X → _ := fun X hX => S.waiters (KA X hX) hok o
  have C5 : ∀ X, But [] w X → _ := fun X hX => S.sleepers (KA X hX) hok c
  obtain ⟨z1, d1⟩ := hr.c1
  obtain ⟨z2, d2⟩ := hr.c2
  obtain ⟨z3, d3⟩ := hr.c3
  have hin : inO σ o = false := by unfold inO inN; rw [hok.ol]; exact decide_eq_false (by omega)
  have e3 : owX σ o = -1 := by unfold owX; rw [hin]; rfl
  have e4 : wX σ o = [] := by unfold wX; rw [hin]; rfl
  have ho0 : decide ((0 : Int) ≤ o) = true := decide_eq_true (by omega)
  have ho1 : decide (o < (n : Int)) = false := decide_eq_false (by omega)
  rw [e3] at C3
  rw [e4] at C4
  clear e3 e4 hin
  have hjn : inO σ c = false := by unfold inO inN; rw [hok.ol]; exact decide_eq_false (by omega)
  have e5 : sX σ c = [] := by unfold sX; rw [hjn]; rfl
  have hc0 : decide ((0 : Int) ≤ c) = false := decide_eq_false (by omega)
  
  rw [e5] at C5
  clear e5 hjn
  have IW : ∀ X v, But [] w X → Rd X v (ints ([] : List Nat)) → Calls Try.prog 21 #[v, (.slice none 0 0)] X fun e w' => e = .returned (.bool true) ∧ Below X.heap.size X w' := fun X v hX hv => ints_two (by simp [ints]) hv ⟨none, 0, rfl, fun j x hx => by simp [ints] at hx⟩
  have IS : ∀ X v, But [] w X → Rd X v (ints ([] : List Nat)) → Calls Try.prog 21 #[v, (.slice none 0 0)] X fun e w' => e = .returned (.bool true) ∧ Below X.heap.size X w' := fun X v hX hv => ints_two (by simp [ints]) hv ⟨none, 0, rfl, fun j x hx => by simp [ints] at hx⟩
  have A4 := At4.new w kd o c t
  have b1 : But [] w (w.alloc (.cells #[.int .i64 kd, .int .i64 o, .int .i64 c, .int .i64 t] 30)) := (But.refl [] w).alloc _
  have d1' : ∀ X, But [] w X → X.cell? ⟨M, 1, none⟩ = some (.slice (some ⟨ob, 0, none⟩) n z1) ∧ X.cell? ⟨M, 2, none⟩ = some (.slice (some ⟨wb, 0, none⟩) n z2) ∧ X.cell? ⟨M, 3, none⟩ = some (.slice (some ⟨sb, 0, none⟩) n z3) := fun X hX => ⟨hX.cell d1, hX.cell d2, hX.cell d3⟩
  replace C1 := fun X hX => C1 X (b1.trans hX)
  replace C2 := fun X hX => C2 X (b1.trans hX)
  replace C3 := fun X hX => C3 X (b1.trans hX)
  replace C4 := fun X hX => C4 X (b1.trans hX)
  replace C5 := fun X hX => C5 X (b1.trans hX)
  replace IW := fun X v hX => IW X v (b1.trans hX)
  replace IS := fun X v hX => IS X v (b1.trans hX)
  replace d1' := fun X hX => d1' X (b1.trans hX)
  have CC := fun X (hX : But [] _ X) => A4.but hX (by simp)
  obtain ⟨c0, c1, c2, c3⟩ := A4
  clear h hok hr KA d1 d2 d3
  generalize whereK σ t = wk at *
  generalize whereO σ t = wo at *
  have ek : (wk == wk) = true := by simp
  have eo : (wo == wo) = true := by simp
  go_enter Try.func12, Try.ntmps12
  go_upto_region 4 with (first
    | (go_at_call 16; (with_reducible refine (C1 _ (But.refl [] _)).mono ?_); rintro e w2 ⟨rfl, k2⟩; have b2 := But.of_below (S := []) k2; obtain ⟨_, c1', c2', c3'⟩ := CC _ b2)
    | (go_at_call 33; (with_reducible refine (C2 _ b2).mono ?_); rintro e w3 ⟨rfl, hw⟩; subst w3))
  obtain ⟨d1, d2, d3⟩ := d1' _ b2
  clear c0 c1 c2 c3 d1' C1 C2
  go_quiet (fail)
  go_upto_region 6 with fail
  go_quiet (fail)
  have b3 := fun n0 => (b2.drewN n0)
  go_wp2_with (first
    | (go_at_call 13; (with_reducible refine (C3 _ (b3 _)).mono ?_); rintro e w4 ⟨rfl, k4⟩; have b4 := (b3 _).trans (.of_below k4); obtain ⟨_, c1x, c2x, _⟩ := CC _ b4)
    | (go_at_call 14; (with_reducible refine (C4 _ b4).mono ?_); rintro e w5 ⟨v5, rfl, r5, k5⟩; obtain ⟨x5, y5, rfl⟩ := own_shape r5; have b5 := b4.trans (.of_below k5); obtain ⟨_, _, c2y, _⟩ := CC _ b5)
    | (go_at_call 15; (with_reducible refine (C5 _ b6).mono ?_); rintro e w7 ⟨v7, rfl, r7, k7⟩; obtain ⟨x7, y7, rfl⟩ := own_shape r7; have b7 := b6.trans (.of_below k7))
    | (go_at_call 21; first
      | ((with_reducible refine (IS _ _ b7 r7.rd).mono ?_); rintro e w8 ⟨rfl, k8⟩; have b8 := b7.trans (.of_below k8))
      | ((with_reducible refine (IW _ _ b5 r5.rd).mono ?_); rintro e w6 ⟨rfl, k6⟩; have b6 := b5.trans (.of_below k6); obtain ⟨_, _, c2z, _⟩ := CC _ b6)))
  go_ret
  exact ⟨rfl, (b1.trans b8).to_below⟩
set_option maxRecDepth 100000 in
set_option maxHeartbeats 4000000 in
theorem alike_hi_hi (S : Side PL) (h : Pr PL W0 w B Q M R n T σ σ) (kd t : Int) (o : Int) (ho : (n : Int) ≤ o) (c : Int) (hc : (n : Int) ≤ c) :
    Calls Try.prog 12 #[.pointer (some ⟨B, 0, none⟩), .pointer (some ⟨M, 0, none⟩), .agg #[.int .i64 kd, .int .i64 o, .int .i64 c, .int .i64 t]] w fun e w' => e = .returned (.bool true) ∧ Below w.heap.size w w' := by
  have hok := h.r.ok
  obtain ⟨-, ob, wb, sb, ab, vw, vs, hr⟩ := id h.r
  have KA : ∀ X, But [] w X → PL X B Q n T σ := fun X hX => S.keep h.a hX
  have C1 : ∀ X, But [] w X → _ := fun X hX => S.where_ (KA X hX) hok t
  have C2 : ∀ X, But [] w X → _ := fun X hX => where_any (hr.keep hX) hok t
  have C3 : ∀ X, But [] w X → _ := fun X hX => S.owner (KA X hX) hok o
  have C4 : ∀ X, But [] w X → _ := fun X hX => S.waiters (KA X hX) hok o
  have C5 : ∀ X, But [] w X → _ := fun X hX => S.sleepers (KA X hX) hok c
  obtain ⟨z1, d1⟩ := hr.c1
  obtain ⟨z2, d2⟩ := hr.c2
  obtain ⟨z3, d3⟩ := hr.c3
  have hin : inO σ o = false := by unfold inO inN; rw [hok.ol]; exact decide_eq_false (by omega)
  have e3 : owX σ o = -1 := by unfold owX; rw [hin]; rfl
  have e4 : wX σ o = [] := by unfold wX; rw [hin]; rfl
  have ho0 : decide ((0 : Int) ≤ o) = true := decide_eq_true (by omega)
  have ho1 : decide (o < (n : Int)) = false := decide_eq_false (by omega)
  rw [e3] at C3
  rw [e4] at C4
  clear e3 e4 hin
  have hjn : inO σ c = false := by unfold inO inN; rw [hok.ol]; exact decide_eq_false (by omega)
  have e5 : sX σ c = [] := by unfold sX; rw [hjn]; rfl
  have hc0 : decide ((0 : Int) ≤ c) = true := decide_eq_true (by omega)
  have hc1 : decide (c < (n : Int)) = false := decide_eq_false (by omega)
  rw [e5] at C5
  clear e5 hjn
  have IW : ∀ X v, But [] w X → Rd X v (ints ([] : List Nat)) → Calls Try.prog 21 #[v, (.slice none 0 0)] X fun e w' => e = .returned (.bool true) ∧ Below X.heap.size X w' := fun X v hX hv => ints_two (by simp [ints]) hv ⟨none, 0, rfl, fun j x hx => by simp [ints] at hx⟩
  have IS : ∀ X v, But [] w X → Rd X v (ints ([] : List Nat)) → Calls Try.prog 21 #[v, (.slice none 0 0)] X fun e w' => e = .returned (.bool true) ∧ Below X.heap.size X w' := fun X v hX hv => ints_two (by simp [ints]) hv ⟨none, 0, rfl, fun j x hx => by simp [ints] at hx⟩
  have A4 := At4.new w kd o c t
  have b1 : But [] w (w.alloc (.cells #[.int .i64 kd, .int .i64 o, .int .i64 c, .int .i64 t] 30)) := (But.refl [] w).alloc _
  have d1' : ∀ X, But [] w X → X.cell? ⟨M, 1, none⟩ = some (.slice (some ⟨ob, 0, none⟩) n z1) ∧ X.cell? ⟨M, 2, none⟩ = some (.slice (some ⟨wb, 0, none⟩) n z2) ∧ X.cell? ⟨M, 3, none⟩ = some (.slice (some ⟨sb, 0, none⟩) n z3) := fun X hX => ⟨hX.cell d1, hX.cell d2, hX.cell d3⟩
  replace C1 := fun X hX => C1 X (b1.trans hX)
  replace C2 := fun X hX => C2 X (b1.trans hX)
  replace C3 := fun X hX => C3 X (b1.trans hX)
  replace C4 := fun X hX => C4 X (b1.trans hX)
  replace C5 := fun X hX => C5 X (b1.trans hX)
  replace IW := fun X v hX => IW X v (b1.trans hX)
  replace IS := fun X v hX => IS X v (b1.trans hX)
  replace d1' := fun X hX => d1' X (b1.trans hX)
  have CC := fun X (hX : But [] _ X) => A4.but hX (by simp)
  obtain ⟨c0, c1, c2, c3⟩ := A4
  clear h hok hr KA d1 d2 d3
  generalize whereK σ t = wk at *
  generalize whereO σ t = wo at *
  have ek : (wk == wk) = true := by simp
  have eo : (wo == wo) = true := by simp
  go_enter Try.func12, Try.ntmps12
  go_upto_region 4 with (first
    | (go_at_call 16; (with_reducible refine (C1 _ (But.refl [] _)).mono ?_); rintro e w2 ⟨rfl, k2⟩; have b2 := But.of_below (S := []) k2; obtain ⟨_, c1', c2', c3'⟩ := CC _ b2)
    | (go_at_call 33; (with_reducible refine (C2 _ b2).mono ?_); rintro e w3 ⟨rfl, hw⟩; subst w3))
  obtain ⟨d1, d2, d3⟩ := d1' _ b2
  clear c0 c1 c2 c3 d1' C1 C2
  go_quiet (fail)
  go_upto_region 6 with fail
  go_quiet (fail)
  have b3 := fun n0 => (b2.drewN n0)
  go_wp2_with (first
    | (go_at_call 13; (with_reducible refine (C3 _ (b3 _)).mono ?_); rintro e w4 ⟨rfl, k4⟩; have b4 := (b3 _).trans (.of_below k4); obtain ⟨_, c1x, c2x, _⟩ := CC _ b4)
    | (go_at_call 14; (with_reducible refine (C4 _ b4).mono ?_); rintro e w5 ⟨v5, rfl, r5, k5⟩; obtain ⟨x5, y5, rfl⟩ := own_shape r5; have b5 := b4.trans (.of_below k5); obtain ⟨_, _, c2y, _⟩ := CC _ b5)
    | (go_at_call 15; (with_reducible refine (C5 _ b6).mono ?_); rintro e w7 ⟨v7, rfl, r7, k7⟩; obtain ⟨x7, y7, rfl⟩ := own_shape r7; have b7 := b6.trans (.of_below k7))
    | (go_at_call 21; first
      | ((with_reducible refine (IS _ _ b7 r7.rd).mono ?_); rintro e w8 ⟨rfl, k8⟩; have b8 := b7.trans (.of_below k8))
      | ((with_reducible refine (IW _ _ b5 r5.rd).mono ?_); rintro e w6 ⟨rfl, k6⟩; have b6 := b5.trans (.of_below k6); obtain ⟨_, _, c2z, _⟩ := CC _ b6)))
  go_ret
  exact ⟨rfl, (b1.trans b8).to_below⟩
theorem alike_any (S : Side PL) (h : Pr PL W0 w B Q M R n T σ σ) (kd o c t : Int) :
    Calls Try.prog 12 #[.pointer (some ⟨B, 0, none⟩), .pointer (some ⟨M, 0, none⟩), .agg #[.int .i64 kd, .int .i64 o, .int .i64 c, .int .i64 t]] w fun e w' => e = .returned (.bool true) ∧ Below w.heap.size w w' := by
  by_cases o0 : o < 0
  · by_cases c0 : c < 0
    · exact alike_lo_lo S h kd t o o0 c c0
    · by_cases c1 : (n : Int) ≤ c
      · exact alike_lo_hi S h kd t o o0 c c1
      · obtain ⟨j, rfl⟩ : ∃ j : Nat, c = j := ⟨c.toNat, by omega⟩
        exact alike_lo_in S h kd t o o0 j (by omega)
  · by_cases o1 : (n : Int) ≤ o
    · by_cases c0 : c < 0
      · exact alike_hi_lo S h kd t o o1 c c0
      · by_cases c1 : (n : Int) ≤ c
        · exact alike_hi_hi S h kd t o o1 c c1
        · obtain ⟨j, rfl⟩ : ∃ j : Nat, c = j := ⟨c.toNat, by omega⟩
          exact alike_hi_in S h kd t o o1 j (by omega)
    · obtain ⟨k, rfl⟩ : ∃ k : Nat, o = k := ⟨o.toNat, by omega⟩
      by_cases c0 : c < 0
      · exact alike_in_lo S h kd t k (by omega) c c0
      · by_cases c1 : (n : Int) ≤ c
        · exact alike_in_hi S h kd t k (by omega) c c1
        · obtain ⟨j, rfl⟩ : ∃ j : Nat, c = j := ⟨c.toNat, by omega⟩
          exact alike_in_in S h kd t k (by omega) j (by omega)
end
end Go.Proofs.Ytimoleijdfoahaa.Lo
