/- Lower of the program's. -/
import Derived.Test.YtlnfabjgcecebaaGreatPqP
namespace Go.Proofs.YtlnfabjgcecebaaGreat.Pq
open Go Go.RowKit Go.Proofs.YtlnfabjgcecebaaGreat.Str Go.Proofs.YtlnfabjgcecebaaGreat.Rd
open Go.Proofs.YtlnfabjgcecebaaGreat.Hp (Step Disj HQ)

/-- Each pass can be lowered by c. -/
def Fit (L : List Rw) (c : Int) : Prop := ∀ i, i < L.length → (-9223372036854775808 ≤ (rw L i).2.2.1 ∧ (rw L i).2.2.1 ≤ 9223372036854775807) ∧ -9223372036854775808 ≤ (rw L i).2.2.1 - c ∧ (rw L i).2.2.1 - c ≤ 9223372036854775807
theorem few_fit {K : Nat} {σ : Qs} (h : Few K σ) (hK : K ≤ 1000) : Fit σ.L σ.now := by
  obtain ⟨A, g⟩ := h
  intro i _
  obtain ⟨b1, b2, -, -⟩ := g.small hK i
  have n0 := g.n0
  have n1 := g.n1
  have a0 := g.a0
  have hk : (K : Int) * 1099511627776 ≤ 1000 * 1099511627776 := by omega
  exact ⟨⟨by omega, by omega⟩, by omega, by omega⟩
theorem lowJ_skip {c : Int} {L : List Rw} {j : Nat} (h : j < L.length) (h0 : (rw L j).1 = 0) : lowJ c L (j + 1) = lowJ c L j := by
  rw [lowJ_succ h]
  unfold lowR
  rw [if_pos h0]
  exact set_same (by rw [← lowJ_at (c := c) h]; exact rw_get (by rw [lowJ_len]; exact h))
theorem lowJ_step {c : Int} {L : List Rw} {j : Nat} (h : j < L.length) (h0 : ¬ (rw L j).1 = 0) : lowJ c L (j + 1) = (lowJ c L j).set j ((rw L j).1, (rw L j).2.1, (rw L j).2.2.1 - c, (rw L j).2.2.2) := by
  rw [lowJ_succ h]
  unfold lowR
  rw [if_neg h0]

section
set_option maxRecDepth 100000
variable {w w' : World} {B G H N : Nat} {TH TH' : List Nat} {σ : Qs} {q q' : List Hp.Th}
/-- The closure of Lower: the pass is not too small. -/
theorem lower1_any (x0 x1 x2 x3 c : Int) {X : Nat} (hx : w.cell? ⟨X, 0, none⟩ = some (.int .i64 c)) (h0 : -9223372036854775808 ≤ x2) (h1 : x2 ≤ 9223372036854775807) (hc0 : -9223372036854775808 ≤ c) (hc1 : c ≤ 9223372036854775807) (hf : Hp.fitsB (x2 - c) = true) :
    Calls Tryz.prog 56 #[.agg #[.int .i64 x0, .int .i64 x1, .int .i64 x2, .int .i64 x3], .pointer (some ⟨X, 0, none⟩)] w fun e w' => e = .returned (.bool false) ∧ Below w.heap.size w w' := by
  have S := fun W => Hp.sub_any x2 c W h0 h1 hc0 hc1
  rw [hf] at S
  generalize Hp.toldI (x2 - c) = y at *
  have hx' : (w.alloc (.cells #[.int .i64 x0, .int .i64 x1, .int .i64 x2, .int .i64 x3] 53)).cell? ⟨X, 0, none⟩ = some (.int .i64 c) := ((Hp.But.refl [] w).alloc _).cell hx
  have hb : Below w.heap.size w (w.alloc (.cells #[.int .i64 x0, .int .i64 x1, .int .i64 x2, .int .i64 x3] 53)) := (Below.refl _ _).alloc (Nat.le_refl _) _
  clear hf
  cases hb0 : (x0 != 0)
  all_goals
    go_enter Tryz.func56, Tryz.ntmps56
    go_wp2_with (first | (go_at_call 57; (with_reducible refine (S _).mono ?_); rintro e w1 ⟨rfl, hw⟩; subst w1))
    go_ret
    exact ⟨rfl, hb⟩
set_option maxHeartbeats 1000000 in
theorem index_any (h : QM w B G H TH N σ q) (hF : Fit σ.L σ.now) (hn0 : 0 ≤ σ.now) (hn1 : σ.now ≤ 9223372036854775807) {X : Nat} (hx : w.cell? ⟨X, 0, none⟩ = some (.int .i64 σ.now)) (c : Nat) :
    Calls Tryz.prog 81 #[.slice (some ⟨G, 0, none⟩) N c, .func (.func 56) #[] #[.pointer (some ⟨X, 0, none⟩)]] w fun e w' => e = .returned (.int .i64 (-1)) ∧ Below w.heap.size w w' := by
  have hN := h.n2
  have hl := h.len
  obtain ⟨now, hnow⟩ : ∃ now, Hid (σ.now = now) := ⟨_, rfl⟩
  rw [hnow.out] at hx hn0 hn1 hF
  clear hnow
  have HM : Aside (∀ W, Below w.heap.size w W → QM W B G H TH N σ q) := fun W hb => h.below hb
  clear h
  go_enter Tryz.func81, Tryz.ntmps81
  go_wp2_with fail
  go_loopw [8, 5] (fun v _ wr => ∃ j : Nat, j ≤ N ∧ v = .int .i64 j ∧ Below w.heap.size w wr) (fun v _ _ => 4096 - (intOf v).toNat)
  case atStart => exact ⟨0, Nat.zero_le _, rfl, Below.refl _ _⟩
  case round =>
    obtain ⟨j, hj, rfl, hb⟩ := hrel
    by_cases hlt : j < N
    · have hr := HM.out wr hb
      have d0 := hr.r0 hlt
      have d1 := hr.r1 hlt
      have d2 := hr.r2 hlt
      have d3 := hr.r3 hlt
      have hlt' : (j : Int) < (N : Int) := by omega
      obtain ⟨⟨f0, f1⟩, f2, f3⟩ := hF j (by omega)
      have L1 := lower1_any (w := wr) (rw σ.L j).1 (strI (rw σ.L j).2.1) (rw σ.L j).2.2.1 (rw σ.L j).2.2.2 now (Hp.cell_on hb hx) f0 f1 (by omega) hn1 (by unfold Hp.fitsB; simp; omega)
      clear f0 f1 f2 f3 hr
      generalize (rw σ.L j).1 = x0 at *
      generalize strI (rw σ.L j).2.1 = x1 at *
      generalize (rw σ.L j).2.2.1 = x2 at *
      generalize (rw σ.L j).2.2.2 = x3 at *
      go_wp2_with (first | (go_at_call 56; (with_reducible refine L1.mono ?_); rintro e w2 ⟨rfl, b2⟩))
      go_roundw
      case rel => exact ⟨j + 1, by omega, by simp, hb.trans (b2.mono hb.size)⟩
      case measure =>
        simp [intOf]
        omega
    · obtain rfl : j = N := by omega
      go_wp2_with fail
      go_ret
      exact ⟨rfl, hb⟩
theorem contains_any (h : QM w B G H TH N σ q) (hF : Fit σ.L σ.now) (hn0 : 0 ≤ σ.now) (hn1 : σ.now ≤ 9223372036854775807) {X : Nat} (hx : w.cell? ⟨X, 0, none⟩ = some (.int .i64 σ.now)) (c : Nat) :
    Calls Tryz.prog 58 #[.slice (some ⟨G, 0, none⟩) N c, .func (.func 56) #[] #[.pointer (some ⟨X, 0, none⟩)]] w fun e w' => e = .returned (.bool false) ∧ Below w.heap.size w w' := by
  have I := index_any h hF hn0 hn1 hx c
  go_enter Tryz.func58, Tryz.ntmps58
  go_wp2_with (first | (go_at_call 81; (with_reducible refine I.mono ?_); rintro e w2 ⟨rfl, b2⟩))
  go_ret
  exact ⟨rfl, b2⟩
set_option maxHeartbeats 4000000 in
theorem lower_any (h : QM w B G H TH N σ (qL σ)) {K : Nat} (hFew : Few K σ) (hK : K ≤ 1000) :
    Calls Tryz.prog 28 #[.pointer (some ⟨B, 0, none⟩)] w fun e w' => e = .returned (.int .i64 (lowN σ)) ∧ ∃ TH', QM w' B G H TH' N (lowS σ) (qL (lowS σ)) ∧ Step (B :: G :: TH) w (B :: G :: TH') w' := by
  have M := made_any h
  have hlB := hFew.lowB hK
  have hF := few_fit hFew hK
  obtain ⟨n0, n1, -, -⟩ := hFew.sml hK
  have hN := h.n2
  have hlen := h.len
  have EN : Hid (lowN σ = σ.now) := by show lowN σ = σ.now; unfold lowN; rw [if_pos hlB]
  have ES : Hid (lowS σ = ⟨0, σ.L.map (lowR σ.now)⟩ ∧ qL (lowS σ) = Hp.lowL (qL σ) σ.now) := by
    have e : lowS σ = ⟨0, σ.L.map (lowR σ.now)⟩ := by unfold lowS; rw [if_pos hlB]
    exact ⟨e, by rw [e]; exact qL_low σ 0 σ.now⟩
  have hkeys : ∀ p ∈ qL σ, Hp.I64 p.2 := fun p hp => by
    obtain ⟨h1, h2, h3⟩ := qL_mem.1 hp
    rw [h3]
    exact (hF p.1 h1).1
  have hql : Hp.lowB (qL σ) σ.now = true := by
    unfold Hp.lowB
    rw [List.all_eq_true]
    intro p hp
    obtain ⟨h1, h2, h3⟩ := qL_mem.1 hp
    rw [h3]
    have := (hF p.1 h1).2
    unfold Hp.fitsB
    simp
    omega
  have LO : ∀ W, QM W B G H TH N σ (qL σ) → Calls Tryz.prog 59 #[.pointer (some ⟨H, 0, none⟩), .int .i64 σ.now] W fun e w' => e = .returned (.int .i64 0) ∧ ∃ T', HQ w' H T' N (Hp.lowL (qL σ) σ.now) ∧ Step TH W T' w' := fun W hW => by
    have := Hp.lower_any hW.h hkeys σ.now ⟨by omega, by omega⟩
    unfold Hp.lowE Hp.lowS at this
    rw [hql, if_pos rfl, if_pos rfl] at this
    exact this
  have hX : w.heap.size ∉ TH := fun e => by have := h.h.lt _ e; omega
  have hXB : w.heap.size ≠ B := by have := h.ltB; omega
  have hXG : w.heap.size ≠ G := by have := h.g.lt; omega
  have h1 := h.keep ((Hp.But.refl [] w).alloc (.cells #[.int .i64 σ.now] 3))
  have hx1 : (w.alloc (.cells #[.int .i64 σ.now] 3)).cell? ⟨w.heap.size, 0, none⟩ = some (.int .i64 σ.now) := by simp [go_sem]
  have ba : Hp.But [] w (w.alloc (.cells #[.int .i64 σ.now] 3)) := (Hp.But.refl [] w).alloc _
  have CF : ∀ (W : World) (c : Nat), QM W B G H TH N σ (qL σ) → W.cell? ⟨w.heap.size, 0, none⟩ = some (.int .i64 σ.now) → _ := fun W c hW hx => contains_any hW hF n0 (by omega) hx c
  have c2 := h.c2
  obtain ⟨c, -, -, c0⟩ := h1.c0
  have c1 := h1.c1
  clear h hkeys hql hlB hFew
  have HQM : ∀ {W : World} {TH' q'}, QM W B G H TH' N σ q' → QM W B G H TH' N ⟨σ.now, lowJ σ.now σ.L 0⟩ q' := fun {W TH' q'} hW => by
    rw [lowJ_zero]
    exact hW
  generalize σ.now = now at *
  go_enter Tryz.func28, Tryz.ntmps28
  go_upto_region 5 with (first | (go_at_call 30; (with_reducible refine M.mono ?_); rintro e w1 ⟨rfl, hw⟩; subst w1))
  generalize hWe : w.alloc (.cells #[.int .i64 now] 3) = W at *
  generalize hXe : w.heap.size = X at *
  clear hWe hXe M c2
  have hd := h1.drew
  have hS : W.drew.cell? ⟨B, 0, none⟩ = some (.slice (some ⟨G, 0, none⟩) N c) ∧ W.drew.cell? ⟨B, 1, none⟩ = some (.pointer (some ⟨H, 0, none⟩)) ∧ W.drew.cell? ⟨X, 0, none⟩ = some (.int .i64 now) := ⟨c0, c1, hx1⟩
  go_region_held3 (fun w' => w'.cell? ⟨B, 0, none⟩ = some (.slice (some ⟨G, 0, none⟩) N c) ∧ w'.cell? ⟨B, 1, none⟩ = some (.pointer (some ⟨H, 0, none⟩)) ∧ w'.cell? ⟨X, 0, none⟩ = some (.int .i64 now)) (first | with_reducible assumption | with_reducible exact hS) (first
    | (go_at_call 58; (with_reducible refine (CF _ _ hd hS.2.2).mono ?_); rintro e w2 ⟨rfl, b2⟩; have h2 := hd.below b2; have k2 : w2.cell? ⟨B, 0, none⟩ = some (.slice (some ⟨G, 0, none⟩) N c) ∧ w2.cell? ⟨B, 1, none⟩ = some (.pointer (some ⟨H, 0, none⟩)) ∧ w2.cell? ⟨X, 0, none⟩ = some (.int .i64 now) := ⟨Hp.cell_on b2 hS.1, Hp.cell_on b2 hS.2.1, Hp.cell_on b2 hS.2.2⟩)
    | (go_at_call 59; (with_reducible refine (LO _ h2).mono ?_); rintro e w3 ⟨rfl, TH3, q3, s3⟩; have h3 := h2.heap q3 s3; have k3 : w3.cell? ⟨B, 0, none⟩ = some (.slice (some ⟨G, 0, none⟩) N c) ∧ w3.cell? ⟨B, 1, none⟩ = some (.pointer (some ⟨H, 0, none⟩)) ∧ w3.cell? ⟨X, 0, none⟩ = some (.int .i64 now) := ⟨s3.but.cell' k2.1 h2.bh, s3.but.cell' k2.2.1 h2.bh, s3.but.cell' k2.2.2 hX⟩))
  all_goals
    have hst : Step (B :: G :: TH) w (B :: G :: TH3) w3 := (Step.keep (ba.trans ((Hp.But.refl [] W).drew.trans (.of_below b2)))).trans (wide2 B G s3)
    have hx3 := k3.2.2
    have c3 := k3.1
    have h4 := HQM h3
    clear hS h3 h2 k2 k3 hd h1 b2 q3 s3 HQM CF LO ba c0 c1 hx1
    generalize Hp.lowL (qL σ) now = ql at *
    go_wp2_with fail
    go_loopw [35, 5, 6] (fun v _ _ wr => ∃ j : Nat, j ≤ N ∧ v = .int .i64 j ∧ QM wr B G H TH3 N ⟨now, lowJ now σ.L j⟩ ql ∧ wr.cell? ⟨X, 0, none⟩ = some (.int .i64 now) ∧ Step (B :: G :: TH) w (B :: G :: TH3) wr) (fun v _ _ _ => 4096 - (intOf v).toNat)
    case atStart => exact ⟨0, by omega, rfl, h4, hx3, hst⟩
    case round =>
      clear h4 hx3 hst c3
      obtain ⟨i, hi, rfl, hR, hx, hB⟩ := hrel
      by_cases hlt : i < N
      · have hli : i < σ.L.length := by rw [hlen]; exact hlt
        have hlt' : (i : Int) < (N : Int) := by omega
        obtain ⟨cc, -, -, c0⟩ := hR.c0
        have y0 := hR.r0 hlt
        have y2 := hR.r2 hlt
        have fz := hR.fg (i * 4 + 2)
        have hF2 := fun W (hW : QM W B G H TH3 N ⟨now, lowJ now σ.L i⟩ ql) x => hW.f2 hlt x
        dsimp only at y0 y2 hF2
        rw [lowJ_at hli] at y0 y2 hF2
        have hft := (hF i hli).2
        by_cases h0 : (rw σ.L i).1 = 0
        · have hsk : Hid (lowJ now σ.L (i + 1) = lowJ now σ.L i) := lowJ_skip hli h0
          rw [h0] at y0
          clear hF2 hft h0
          go_wp2_with fail
          go_roundw
          case rel => exact ⟨i + 1, by omega, by simp, by rw [hsk.out]; exact hR, hx, hB⟩
          case measure =>
            simp [intOf]
            omega
        · have h0n : ((rw σ.L i).1 != 0) = true := by simpa using h0
          have h0' : ((rw σ.L i).1 == 0) = false := by simpa using h0
          have hF3 : ∀ W, QM W B G H TH3 N ⟨now, lowJ now σ.L i⟩ ql → QM (W.setCell ⟨G, i * 4 + 2, none⟩ (.int .i64 ((rw σ.L i).2.2.1 - now))) B G H TH3 N ⟨now, lowJ now σ.L (i + 1)⟩ ql := fun W hW => by
            have := hF2 W hW ((rw σ.L i).2.2.1 - now)
            rw [lowJ_step hli h0]
            exact this
          have hwr : IntKind.i64.wrap ((rw σ.L i).2.2.1 - now) = (rw σ.L i).2.2.1 - now := by
            simp only [IntKind.wrap, IntKind.bits, IntKind.signed]
            simp
            omega
          clear hF2 hft h0
          generalize (rw σ.L i).1 = st at *
          generalize (rw σ.L i).2.2.1 = ps at *
          go_upto_region 12 with fail
          have hRd := hR.drew
          have hBd : Step (B :: G :: TH) w (B :: G :: TH3) wr.drew := hB.trans (Step.keep (Hp.But.refl [] wr).drew)
          obtain ⟨V, hV⟩ : ∃ V, V = wr.drew := ⟨_, rfl⟩
          replace y2 : V.cell? ⟨G, i * 4 + 2, none⟩ = some (.int .i64 ps) := hV ▸ y2
          replace hx : V.cell? ⟨X, 0, none⟩ = some (.int .i64 now) := hV ▸ hx
          replace fz : V.frozen? ⟨G, i * 4 + 2, none⟩ = false := hV ▸ fz
          rw [← hV] at hRd hBd
          refine wp_region_K 8 (fun w' => w'.cell? ⟨G, i * 4 + 2, none⟩ = some (.int .i64 ps) ∧ w'.cell? ⟨X, 0, none⟩ = some (.int .i64 now) ∧ IsW V w') (by kernel_rfl) (by kernel_rfl) (by rw [← hV]; exact ⟨y2, hx, rfl⟩) (fun hHeld hdep => ?_)
          rw [← hV]
          clear hV hHeld
          have hHeld : (fun w' => w'.cell? ⟨G, i * 4 + 2, none⟩ = some (.int .i64 ps) ∧ w'.cell? ⟨X, 0, none⟩ = some (.int .i64 now) ∧ IsW V w') V := ⟨y2, hx, rfl⟩
          refine wpAnyK_take (i := 0) (v := ?_) (some 49) rfl rfl hdep (by kernel_rfl) (fun _ _ _ h => h) (Or.inl ⟨by rfl, ?_⟩) (by assumption) ?_
          rotate_left
          · (intro w hSw; go_simp; all_goals with_reducible rfl)
          try simp only [Act.put, List.setIfInBounds_toArray, List.set_cons_zero, List.set_cons_succ]
          refine wpAnyK_take (i := 1) (v := ?_) (some 50) rfl rfl hdep (by kernel_rfl) (fun _ _ _ h => h) (Or.inl ⟨by rfl, ?_⟩) (by assumption) ?_
          rotate_left
          · (intro w hSw; go_simp; all_goals with_reducible rfl)
          try simp only [Act.put, List.setIfInBounds_toArray, List.set_cons_zero, List.set_cons_succ]
          refine wpAnyK_take (i := 2) (v := ?_) (some 51) rfl rfl hdep (by kernel_rfl) (fun _ _ _ h => h) (Or.inl ⟨by rfl, ?_⟩) (by assumption) ?_
          rotate_left
          · (intro w hSw; go_simp; all_goals with_reducible rfl)
          try simp only [Act.put, List.setIfInBounds_toArray, List.set_cons_zero, List.set_cons_succ]
          refine wpAnyK_take (i := 3) (v := ?_) (some 52) rfl rfl hdep (by kernel_rfl) (fun _ _ _ h => h) (Or.inl ⟨by rfl, ?_⟩) (by assumption) ?_
          rotate_left
          · (intro w hSw; obtain ⟨z0, z1, z2⟩ := hSw; go_simp; all_goals with_reducible rfl)
          try simp only [Act.put, List.setIfInBounds_toArray, List.set_cons_zero, List.set_cons_succ]
          refine wpAnyK_take (i := 4) (v := ?_) (some 53) rfl rfl hdep (by kernel_rfl) (fun _ _ _ h => h) (Or.inl ⟨by rfl, ?_⟩) (by assumption) ?_
          rotate_left
          · (intro w hSw; obtain ⟨z0, z1, z2⟩ := hSw; go_simp; all_goals with_reducible rfl)
          try simp only [Act.put, List.setIfInBounds_toArray, List.set_cons_zero, List.set_cons_succ]
          refine wpAnyK_take (i := 5) (v := ?_) (some 54) rfl rfl hdep (by kernel_rfl) (fun _ _ _ h => h) (Or.inl ⟨by rfl, ?_⟩) (by assumption) ?_
          rotate_left
          · (intro w hSw; go_simp; all_goals with_reducible rfl)
          try simp only [Act.put, List.setIfInBounds_toArray, List.set_cons_zero, List.set_cons_succ]
          refine wpAnyK_take (i := 6) (v := ?_) (some 55) rfl rfl hdep (by kernel_rfl) (fun _ _ _ h => h) (Or.inl ⟨by rfl, ?_⟩) (by assumption) ?_
          rotate_left
          · (intro w hSw; go_simp; all_goals with_reducible rfl)
          try simp only [Act.put, List.setIfInBounds_toArray, List.set_cons_zero, List.set_cons_succ]
          refine wpAnyK_take (i := 7) (v := ?_) (some 56) rfl rfl hdep (by kernel_rfl) (fun _ _ _ h => h) (Or.inl ⟨by rfl, ?_⟩) (by assumption) ?_
          rotate_left
          · (intro w hSw; go_simp; all_goals with_reducible rfl)
          try simp only [Act.put, List.setIfInBounds_toArray, List.set_cons_zero, List.set_cons_succ]
          refine wpAnyK_one (i := 8) (by kernel_rfl) rfl (fun K hK => ?_)
          go_simp
          refine hK.out _ _ (fun h => absurd rfl h) ?_
          clear hK K
          try simp only [Act.put, List.setIfInBounds_toArray, List.set_cons_zero, List.set_cons_succ]
          refine wpAnyK_done (by kernel_rfl) ?_
          have hFin := hF3 V hRd
          have hXX : (V.setCell ⟨G, i * 4 + 2, none⟩ (.int .i64 (ps - now))).cell? ⟨X, 0, none⟩ = some (.int .i64 now) := ((Hp.But.refl [G] V).set (p := ⟨G, i * 4 + 2, none⟩) (by simp) _).cell' hx (by simpa using hXG)
          have hBF := hBd.trans (Step.same (butG V B TH3 (G := G) (i * 4 + 2) (.int .i64 (ps - now))))
          go_wp2_with fail
          go_roundw
          case rel => exact ⟨i + 1, by omega, by simp, hFin, hXX, hBF⟩
          case measure =>
            simp [intOf]
            omega
      · obtain rfl : i = N := by omega
        have c2 := hR.c2
        have fb := hR.fb 2
        have hZ := hR.nw 0
        dsimp only at c2 hZ
        rw [← hlen, lowJ_all] at hZ
        have hxz : (wr.setCell ⟨B, 2, none⟩ (.int .i64 0)).cell? ⟨X, 0, none⟩ = some (.int .i64 now) := ((Hp.But.refl [B] wr).set (p := ⟨B, 2, none⟩) (by simp) _).cell' hx (by simpa using hXB)
        have hBZ := hB.trans (Step.same (butB wr G TH3 (B := B) 2 (.int .i64 0)))
        go_wp2_with fail
        go_ret
        exact ⟨by rw [EN.out]; rfl, TH3, by rw [ES.out.2, ES.out.1, ← hlen]; exact hZ, hBZ⟩
end
end Go.Proofs.YtlnfabjgcecebaaGreat.Pq
