/- The walk of StrideTurns. -/
import Derived.Test.YtdfccjhmpgoacaaStTnL
namespace Go.Proofs.Ytdfccjhmpgoacaa.Str
open Go.RowKit Go.Proofs.Ytdfccjhmpgoacaa.Big

section
variable {w : World} {xa : Option Addr} {xc : Nat} {xs : List Int}
set_option maxHeartbeats 4000000 in
set_option maxRecDepth 100000 in
theorem turns_any {Q : Int} (w : World) (hx : IU w xa xs) (hr : ∀ j, j < xs.length → 0 ≤ ix xs j ∧ ix xs j ≤ 65535) (hQ0 : 0 ≤ Q) :
    Calls Try.prog 6 #[.slice xa xs.length xc, .int .u16 Q] w fun e w' => e = .returned (.bool true) ∧ Below w.heap.size w w' := by
  by_cases h0 : xs.length = 0
  · rw [h0]
    go_enter Try.func6, Try.ntmps6
    go_wp2_with (first | (go_at_call 18; (with_reducible refine (lives_any _).mono ?_); rintro e w1 ⟨rfl, rfl⟩))
    go_ret
    exact ⟨rfl, Below.refl _ _⟩
  have h0' : ((xs.length : Int) == 0) = false := by simp; intro h; exact h0 (by rw [h]; rfl)
  have h0'' : (xs.length == 0) = false := by simpa using h0
  by_cases h1 : 8 < xs.length
  · have h1' : (8 : Int) < (xs.length : Int) := by omega
    go_enter Try.func6, Try.ntmps6
    go_wp2_with (first | (go_at_call 18; (with_reducible refine (lives_any _).mono ?_); rintro e w1 ⟨rfl, rfl⟩))
    go_ret
    exact ⟨rfl, Below.refl _ _⟩
  have h1' : decide ((8 : Int) < (xs.length : Int)) = false := by simp; omega
  have hn : xs.length ≤ 8 := by omega
  have hg := tk_all hr
  have hlen : (tkL xs).length = xs.length := tk_len xs
  have hpos : 0 < xs.length := by omega
  have R0 : RowI w w.heap.size (.slice none 0 0) ((tkL xs).take 0) := ⟨rfl, .inl ⟨rfl, rfl⟩⟩
  have hR0 : 0 ≤ Int.tmod Q 300 ∧ Int.tmod Q 300 < 300 := by rw [Int.tmod_eq_emod_of_nonneg hQ0]; omega
  generalize hRq : Int.tmod Q 300 = Rq at *
  obtain ⟨hRq0, hRq1⟩ := hR0
  clear h0 h1
  go_enter Try.func6, Try.ntmps6
  go_wp2_with fail
  go_loopw [27, 5, 7] (fun v tv _ wr => ∃ j : Nat, j ≤ xs.length ∧ v = .int .i64 j ∧ RowI wr w.heap.size tv ((tkL xs).take j) ∧ Below w.heap.size w wr) (fun v _ _ _ => 40 - (intOf v).toNat)
  case atStart => exact ⟨0, Nat.zero_le _, rfl, R0, Below.refl _ _⟩
  case round =>
    obtain ⟨j, hj, rfl, hR, hb⟩ := hrel
    by_cases hlt : j < xs.length
    · obtain ⟨b, o, rfl, c0⟩ := hx j hlt
      replace c0 := cell_on hb c0
      have hlt' : (j : Int) < (xs.length : Int) := by omega
      have h2 := hr j hlt
      have HT : Hid ((tkL xs).take (j + 1) = (tkL xs).take j ++ [1 + ix xs j]) := tk_take hlt
      have hTl : ((tkL xs).take j).length ≤ 10000 := by rw [List.length_take, hlen]; omega
      generalize ix xs j = x at *
      generalize (tkL xs).take j = TJ at *
      obtain ⟨h2a, h2b⟩ := h2
      have hR1 := hR.below ((Below.refl _ wr).alloc (Nat.le_refl _) (.cells #[.int .i64 (1 + x)] 3))
      have hlow := hR.low
      have hsz : w.heap.size ≤ (wr.alloc (.cells #[.int .i64 (1 + x)] 3)).heap.size := by have := hb.size; simp; omega
      have hb1 : Below w.heap.size w (wr.alloc (.cells #[.int .i64 (1 + x)] 3)) := hb.alloc hb.size _
      go_wp2_with (first
        | (at_builtin; refine wpList_app1 rfl (.tmp 31) (.tmp 35) rfl w.heap.size _ TJ rfl hR1 _ _ (1 + x) rfl (reads_one _ _) hTl hsz ?_; intro v3 w3 hr3 hg3 ha3; have hb3 := hb1.trans (grown_below hg3 hsz hlow); clear hR1 hg3 ha3 hb1 hsz hR))
      go_roundw
      case rel => exact ⟨j + 1, by omega, by simp, by rw [HT.out]; exact hr3, hb3⟩
      case measure =>
        simp [intOf]
        omega
    · obtain rfl : j = xs.length := by omega
      rw [show (tkL xs).take xs.length = tkL xs by rw [List.take_of_length_le (by omega)]] at hR
      obtain ⟨ta, tc, htc, hcm, rfl, hI⟩ := hR.ixc
      clear hR
      have hlt' : ¬ (xs.length : Int) < (xs.length : Int) := by omega
      generalize hT : tkL xs = T at *
      clear hT hr R0
      generalize hn' : xs.length = n at *
      clear hn'
      subst hlen
      have hmk := mk_int T.length (by omega)
      obtain ⟨wA, hwA⟩ : ∃ x, x = wr := ⟨_, rfl⟩
      subst hwA
      go_upto_region 9 with fail
      go_cut [8, 9, 10] from 38 to 46 (fun s8 s9 s10 wx => ∃ g8 g9 g10 : Nat, s8 = .slice (some ⟨g8, 0, none⟩) T.length T.length ∧ s9 = .slice (some ⟨g9, 0, none⟩) T.length T.length ∧ s10 = .slice (some ⟨g10, 0, none⟩) T.length T.length ∧ Tn wA g8 g9 g10 T.length (fun _ => 0) (fun _ => 0) (fun _ => 0) wx)
      case first =>
        go_region
        all_goals
          go_wp2_with fail
          go_meet
          case rel =>
            generalize hW : World.drew _ = W
            exact ⟨_, _, _, rfl, rfl, rfl, Tn.made wA T.length hW.symm (by first | omega | (simp; done) | (simp; omega)) (by first | omega | (simp; done) | (simp; omega)) (by first | omega | (simp; done) | (simp; omega)) (by first | omega | (simp; done) | (simp; omega)) (by first | omega | (simp; done) | (simp; omega)) (by first | omega | (simp; done) | (simp; omega))⟩
      case rest =>
        obtain ⟨g8, g9, g10, rfl, rfl, rfl, hT0⟩ := hcut
        clear hmk
        obtain ⟨tb, td, rfl, -⟩ := hI 0 hpos
        have HC : ∀ j, j < T.length → wA.cell? ⟨tb, td + j, none⟩ = some (.int .i64 (ix T j)) := fun j hj => by
          obtain ⟨b', o', e, h'⟩ := hI j hj
          cases e
          exact h'
        go_wp2_with fail
        go_loopw [11] (fun v wr => ∃ (K : Nat) (p n c : Nat → Nat), K ≤ 300 ∧ v = .int .i64 (K : Int) ∧ Turns T.length (sN T) p n c ∧ (∀ i, i < T.length → n i ≤ K) ∧ Tn wA g8 g9 g10 T.length p n c wr) (fun v _ => 400 - (intOf v).toNat)
        case atStart => exact ⟨0, _, _, _, by omega, rfl, Turns.begin _ _, fun _ _ => Nat.le_refl _, hT0⟩
        case round =>
          obtain ⟨N, p, n, c, hK, rfl, hTu, hnK, hM⟩ := hrel
          by_cases hlt2 : (N : Int) < Rq
          · have hK3 : N < 300 := by omega
            go_wp2_with fail
            obtain ⟨wB, hwB⟩ : ∃ x, x = wr := ⟨_, rfl⟩
            subst hwB
            go_loopw [56, 12, 13] (fun v bv _ wr => ∃ (j b : Nat), j ≤ T.length ∧ v = .int .i64 j ∧ bv = .int .i64 b ∧ b < T.length ∧ (∀ i, i < j → p b ≤ p i) ∧ Tn wA g8 g9 g10 T.length p n (fun i => if i < j then c i + 1 else c i) wr) (fun v _ _ _ => 40 - (intOf v).toNat)
            case atStart => exact ⟨0, 0, by omega, rfl, rfl, hpos, fun i hi => by omega, hM.congr (fun i _ => by simp)⟩
            case round =>
              obtain ⟨j, b, hj2, rfl, rfl, hbT, hle, hM⟩ := hrel
              by_cases hlt3 : j < T.length
              · have hlt3' : (j : Int) < (T.length : Int) := by omega
                have hbT' : (b : Int) < (T.length : Int) := by omega
                have cj : wr.cell? ⟨g8, j, none⟩ = some (.int .i64 (p j : Int)) := hM.r8.cell (lst_get hlt3)
                have cb : wr.cell? ⟨g8, b, none⟩ = some (.int .i64 (p b : Int)) := hM.r8.cell (lst_get hbT)
                have c10 : wr.cell? ⟨g10, j, none⟩ = some (.int .i64 (c j : Int)) := by
                  have := hM.r10.cell (lst_get hlt3)
                  rwa [if_neg (Nat.lt_irrefl j)] at this
                have f10 : wr.frozen? ⟨g10, j, none⟩ = false := hM.r10.fz j
                have hcB := hTu.bnd hg (by omega) hlt3
                have hcB0 : (c j : Int) + 1 ≤ 1000000 := by
                  have e := hTu.bnd hg (by omega) hlt3
                  have := bnd_small hg (by omega) hlt3
                  omega
                have hBf : decide (bndI T j < (c j : Int) + 1) = false := by simp; omega
                have CA := fun W => ahead_any (p j : Int) (j : Int) (p b : Int) (b : Int) W
                have HB : Hid (if aheadB (p j : Int) (j : Int) (p b : Int) (b : Int) = true then ∀ i, i < j + 1 → p j ≤ p i else ∀ i, i < j + 1 → p b ≤ p i) := ahead_least hle
                obtain ⟨q, hq⟩ : ∃ q, aheadB (p j : Int) (j : Int) (p b : Int) (b : Int) = q := ⟨_, rfl⟩
                rw [hq] at CA HB
                clear hq hcB
                generalize hcj : c j = cj' at *
                replace hcj := Hid.mk hcj
                generalize hpj : p j = pj' at *
                replace hpj := Hid.mk hpj
                generalize hpb : p b = pb' at *
                replace hpb := Hid.mk hpb
                cases q
                all_goals
                  go_upto_region 17 with fail
                  go_quiet (first | (go_at_call 14; exact Calls.quiet_of ((CA _).mono (fun _ _ ⟨h1, h2⟩ => ⟨h1, 0, h2⟩))))
                  go_upto_region 20 with fail
                  have hM2 : Tn wA g8 g9 g10 T.length p n (fun i => if i < j + 1 then c i + 1 else c i) ((wr.drewN nq).setCell ⟨g10, j, none⟩ (.int .i64 ((cj' : Int) + 1))) := by
                    have h := (hM.below (below_drewN wr nq)).set10 j (cj' + 1)
                    rw [show ((cj' + 1 : Nat) : Int) = (cj' : Int) + 1 by omega] at h
                    refine h.congr (fun i hi => ?_)
                    by_cases e : i = j
                    · subst e
                      rw [upd_same, if_pos (by omega), hcj.out]
                    · rw [upd_other _ _ e]
                      by_cases e2 : i < j
                      · rw [if_pos e2, if_pos (by omega)]
                      · rw [if_neg e2, if_neg (by omega)]
                  have hcV : ((wr.drewN nq).setCell ⟨g10, j, none⟩ (.int .i64 ((cj' : Int) + 1))).cell? ⟨g10, j, none⟩ = some (.int .i64 ((cj' : Int) + 1)) := by
                    have h := hM2.r10.cell (lst_get hlt3)
                    rw [if_pos (Nat.lt_succ_self j), hcj.out, show ((cj' + 1 : Nat) : Int) = (cj' : Int) + 1 by omega] at h
                    exact h
                  generalize (wr.drewN nq).setCell ⟨g10, j, none⟩ (.int .i64 ((cj' : Int) + 1)) = V at *
                  have hkV := hM2.k
                  replace hcV : V.drew.cell? ⟨g10, j, none⟩ = some (.int .i64 ((cj' : Int) + 1)) := hcV
                  clear hM cj cb c10 f10 CA
                  refine wp_region_held_drew (S := fun w' => w'.cell? ⟨g10, j, none⟩ = some (.int .i64 ((cj' : Int) + 1)) ∧ Below V.heap.size V w') (by kernel_rfl) ⟨hcV, below_drew V⟩ (fun hHeld => ?_)
                  refine anyH_take (i := 0) (v := ?_) (some 77) rfl rfl (by kernel_rfl) (fun _ _ _ h => h) (Or.inl ⟨by rfl, ?_⟩) (by assumption) ?_
                  rotate_left
                  · (intro w hSw; go_simp; all_goals with_reducible rfl)
                  try simp only [Act.put, List.setIfInBounds_toArray, List.set_cons_zero, List.set_cons_succ]
                  refine anyH_take (i := 1) (v := ?_) (some 78) rfl rfl (by kernel_rfl) (fun _ _ _ h => h) (Or.inl ⟨by rfl, ?_⟩) (by assumption) ?_
                  rotate_left
                  · (intro w hSw; go_simp; all_goals with_reducible rfl)
                  try simp only [Act.put, List.setIfInBounds_toArray, List.set_cons_zero, List.set_cons_succ]
                  refine anyH_take (i := 2) (v := ?_) (some 79) rfl rfl (by kernel_rfl) (fun _ _ _ h => h) (Or.inl ⟨by rfl, ?_⟩) (by assumption) ?_
                  rotate_left
                  · (intro w hSw; go_simp; all_goals with_reducible rfl)
                  try simp only [Act.put, List.setIfInBounds_toArray, List.set_cons_zero, List.set_cons_succ]
                  refine anyH_take (i := 3) (v := ?_) (some 80) rfl rfl (by kernel_rfl) (fun _ _ _ h => h) (Or.inl ⟨by rfl, ?_⟩) (by assumption) ?_
                  rotate_left
                  · (intro w hSw; obtain ⟨z0, z1⟩ := hSw; go_simp; all_goals with_reducible rfl)
                  try simp only [Act.put, List.setIfInBounds_toArray, List.set_cons_zero, List.set_cons_succ]
                  refine anyH_take (i := 4) (v := ?_) (some 81) rfl rfl (by kernel_rfl) (fun _ _ _ h => h) (Or.inl ⟨by rfl, ?_⟩) (by assumption) ?_
                  rotate_left
                  · (intro w hSw; go_simp; all_goals with_reducible rfl)
                  try simp only [Act.put, List.setIfInBounds_toArray, List.set_cons_zero, List.set_cons_succ]
                  refine anyH_take (i := 5) (v := ?_) (some 82) rfl rfl (by kernel_rfl) (fun _ _ _ h => h) (Or.inl ⟨by rfl, ?_⟩) (by assumption) ?_
                  rotate_left
                  · (intro w hSw; go_simp; all_goals with_reducible rfl)
                  try simp only [Act.put, List.setIfInBounds_toArray, List.set_cons_zero, List.set_cons_succ]
                  refine anyH_one (i := 6) (by kernel_rfl) rfl (fun K hK => ?_)
                  go_simp
                  go_at_call 21
                  (with_reducible refine (bound_any (xc := tc) (hI.below (hkV.trans (hHeld.2.mono hkV.size))) (j : Int)).mono ?_)
                  rintro e w2 ⟨rfl, hb2⟩
                  refine hK.out _ _ ⟨cell_on hb2 hHeld.1, below2 hHeld.2 hHeld.2.size hb2⟩ (fun hHeld => ?_)
                  clear hK K
                  try simp only [Act.put, List.setIfInBounds_toArray, List.set_cons_zero, List.set_cons_succ]
                  refine anyH_take (i := 7) (v := ?_) (some 84) rfl rfl (by kernel_rfl) (fun _ _ _ h => h) (Or.inl ⟨by rfl, ?_⟩) (by assumption) ?_
                  rotate_left
                  · (intro w hSw; go_simp; all_goals with_reducible rfl)
                  try simp only [Act.put, List.setIfInBounds_toArray, List.set_cons_zero, List.set_cons_succ]
                  refine wpAnyH_done (by kernel_rfl) ?_ _
                  go_wp2_with fail
                  go_roundw
                  case rel => first
                    | exact ⟨j + 1, j, by omega, by simp, rfl, hlt3, by have h := HB.out; rw [← hpj.out] at h; simpa using h, hM2.below hHeld.2⟩
                    | exact ⟨j + 1, b, by omega, by simp, rfl, hbT, by have h := HB.out; rw [← hpb.out] at h; simpa using h, hM2.below hHeld.2⟩
                  case measure =>
                    simp [intOf]
                    omega
              · obtain rfl : j = T.length := by omega
                replace hM : Tn wA g8 g9 g10 T.length p n (fun i => c i + 1) wr := hM.congr (fun i hi => by rw [if_pos hi])
                have hbT' : (b : Int) < (T.length : Int) := by omega
                go_upto_region 23 with fail
                have cp : wr.cell? ⟨g8, b, none⟩ = some (.int .i64 (p b : Int)) := hM.r8.cell (lst_get hbT)
                have fp : wr.frozen? ⟨g8, b, none⟩ = false := hM.r8.fz b
                have ct : wr.cell? ⟨tb, td + b, none⟩ = some (.int .i64 (ix T b)) := (hM.k.cell (World.block_lt_of_cell? wA _ (HC b hbT))).trans (HC b hbT)
                have hST := fun W => stride_any (ix T b) W
                rw [(sN_eq hg hbT).1] at hST
                have hsb := (sN_eq hg hbT).2.2.2
                have hpb := hTu.pass hg hbT (by have := hnK b hbT; omega)
                have hCH := fun W => charge_any (p b : Int) (sN T b : Int) W (by omega) (by omega) (by omega) (by omega)
                rw [told_fits (fits_mk (by omega) (by omega)), fits_mk (by omega) (by omega)] at hCH
                go_cut [12] from 86 to 101 (fun s12 wx => s12 = .int .i64 (b : Int) ∧ ∃ k, wx = (wr.drewN k).setCell ⟨g8, b, none⟩ (.int .i64 ((p b : Int) + (sN T b : Int))))
                case first =>
                  clear hM hTu hnK hle HC hI hx
                  generalize ix T b = tb' at *
                  go_region_with (first | (go_at_call 10; (with_reducible refine (hST _).mono ?_); rintro e w2 ⟨rfl, hw⟩; subst w2) | (go_at_call 8; (with_reducible refine (hCH _).mono ?_); rintro e w2 ⟨rfl, hw⟩; subst w2))
                  all_goals
                    go_wp2_with fail
                    go_meet
                    case rel => exact ⟨rfl, 1, rfl⟩
                case rest =>
                  obtain ⟨rfl, k, rfl⟩ := hcut
                  have hM1 := (hM.below (below_drewN wr k)).set8 b (p b + sN T b)
                  rw [Int.natCast_add] at hM1
                  generalize (wr.drewN k).setCell ⟨g8, b, none⟩ (.int .i64 ((p b : Int) + (sN T b : Int))) = W1 at *
                  have hTu2 := hTu.pick hbT hle
                  rw [← (show upd (fun i => c i + 1) b 0 = fun i => if i = b then 0 else c i + 1 from rfl)] at hTu2
                  have hM9 := hM1.set9 b (n b + 1)
                  rw [show ((n b + 1 : Nat) : Int) = (n b : Int) + 1 by omega] at hM9
                  have hM2 := hM9.set10 b 0
                  have c10 : (W1.setCell ⟨g9, b, none⟩ (.int .i64 ((n b : Int) + 1))).cell? ⟨g10, b, none⟩ = some (.int .i64 ((c b + 1 : Nat) : Int)) := hM9.r10.cell (lst_get hbT)
                  have f10' : (W1.setCell ⟨g9, b, none⟩ (.int .i64 ((n b : Int) + 1))).frozen? ⟨g10, b, none⟩ = false := hM9.r10.fz b
                  clear hM9
                  have cn : W1.cell? ⟨g9, b, none⟩ = some (.int .i64 (n b : Int)) := hM1.r9.cell (lst_get hbT)
                  have fn : W1.frozen? ⟨g9, b, none⟩ = false := hM1.r9.fz b
                  have f10 : W1.frozen? ⟨g10, b, none⟩ = false := hM1.r10.fz b
                  have hnb := hnK b hbT
                  have hn3 : ∀ i, i < T.length → upd n b (n b + 1) i ≤ N + 1 := fun i hi => by
                    by_cases e : i = b
                    · rw [e, upd_same]; omega
                    · rw [upd_other _ _ e]; have := hnK i hi; omega
                  clear hM hM1 hTu hnK hle cp fp ct hST hsb hpb hCH
                  generalize upd p b (p b + sN T b) = p' at *
                  generalize hn' : upd n b (n b + 1) = n' at *
                  clear hn'
                  generalize upd (fun i => c i + 1) b 0 = c' at *
                  generalize n b = nb at *
                  go_upto_region 26 with fail
                  obtain ⟨wC, hwC⟩ : ∃ x, x = (W1.setCell ⟨g9, b, none⟩ (.int .i64 ((nb : Int) + 1))).setCell ⟨g10, b, none⟩ (.int .i64 0) := ⟨_, rfl⟩
                  rw [← hwC]
                  replace hM2 : Tn wA g8 g9 g10 T.length p' n' c' wC := hwC ▸ hM2
                  clear hwC cn fn f10 c10 f10'
                  go_wp2_with fail
                  go_loopw [113, 14] (fun v _ wr => ∃ i : Nat, i ≤ T.length ∧ v = .int .i64 i ∧ Below wC.heap.size wC wr) (fun v _ _ => 40 - (intOf v).toNat)
                  case atStart => exact ⟨0, by omega, rfl, Below.refl _ _⟩
                  case round =>
                    obtain ⟨i, hi, rfl, hbI⟩ := hrel
                    by_cases hlt4 : i < T.length
                    · have hlt4' : (i : Int) < (T.length : Int) := by omega
                      have hcap : (i : Int) ≤ (tc : Int) := by omega
                      have hcap' : i ≤ tc := by omega
                      go_wp2_with fail

                      obtain ⟨wD, hwD⟩ : ∃ x, x = wr := ⟨_, rfl⟩
                      subst hwD
                      go_loopw [120, 15] (fun v _ wr => ∃ j : Nat, j ≤ i ∧ v = .int .i64 j ∧ Below wC.heap.size wC wr) (fun v _ _ => 40 - (intOf v).toNat)
                      case atStart => exact ⟨0, by omega, rfl, hbI⟩
                      case round =>
                        obtain ⟨j, hj3, rfl, hbI⟩ := hrel
                        by_cases hlt5 : j < i
                        · have hlt5' : (j : Int) < (i : Int) := by omega
                          have hlt6' : (j : Int) < (T.length : Int) := by omega
                          have hlt6 : j < T.length := by omega
                          have hM3 := (hM2.below hbI).below (below_drew wr)
                          have y0 : wr.drew.cell? ⟨g9, i, none⟩ = some (.int .i64 (n' i : Int)) := hM3.r9.cell (lst_get hlt4)
                          have y1 : wr.drew.cell? ⟨tb, td + i, none⟩ = some (.int .i64 (ix T i)) := (hM3.k.cell (World.block_lt_of_cell? wA _ (HC i hlt4))).trans (HC i hlt4)
                          have y2 : wr.drew.cell? ⟨g9, j, none⟩ = some (.int .i64 (n' j : Int)) := hM3.r9.cell (lst_get hlt6)
                          have y3 : wr.drew.cell? ⟨tb, td + j, none⟩ = some (.int .i64 (ix T j)) := (hM3.k.cell (World.block_lt_of_cell? wA _ (HC j hlt6))).trans (HC j hlt6)
                          have hni := hn3 i hlt4
                          have hnj := hn3 j hlt6
                          have hWI := fun W => within_any (n' i : Int) (ix T i) (n' j : Int) (ix T j) 1 W (by omega) (by omega) (by omega) (by omega)
                          rw [hTu2.near hg hlt4 hlt6 (by omega) (by omega)] at hWI
                          go_upto_region 32 with fail
                          refine wp_region_held_drew (S := fun w' => w'.cell? ⟨g9, i, none⟩ = some (.int .i64 (n' i : Int)) ∧ w'.cell? ⟨tb, td + i, none⟩ = some (.int .i64 (ix T i)) ∧ w'.cell? ⟨g9, j, none⟩ = some (.int .i64 (n' j : Int)) ∧ w'.cell? ⟨tb, td + j, none⟩ = some (.int .i64 (ix T j)) ∧ Below wC.heap.size wC w') (by kernel_rfl) ⟨y0, y1, y2, y3, below2 hbI hbI.size (below_drew wr)⟩ (fun hHeld => ?_)
                          refine anyH_take (i := 0) (v := ?_) (some 123) rfl rfl (by kernel_rfl) (fun _ _ _ h => h) (Or.inl ⟨by rfl, ?_⟩) (by assumption) ?_
                          rotate_left
                          · (intro w hSw; go_simp; all_goals with_reducible rfl)
                          try simp only [Act.put, List.setIfInBounds_toArray, List.set_cons_zero, List.set_cons_succ]
                          refine anyH_take (i := 1) (v := ?_) (some 124) rfl rfl (by kernel_rfl) (fun _ _ _ h => h) (Or.inl ⟨by rfl, ?_⟩) (by assumption) ?_
                          rotate_left
                          · (intro w hSw; go_simp; all_goals with_reducible rfl)
                          try simp only [Act.put, List.setIfInBounds_toArray, List.set_cons_zero, List.set_cons_succ]
                          refine anyH_take (i := 2) (v := ?_) (some 125) rfl rfl (by kernel_rfl) (fun _ _ _ h => h) (Or.inl ⟨by rfl, ?_⟩) (by assumption) ?_
                          rotate_left
                          · (intro w hSw; go_simp; all_goals with_reducible rfl)
                          try simp only [Act.put, List.setIfInBounds_toArray, List.set_cons_zero, List.set_cons_succ]
                          refine anyH_take (i := 3) (v := ?_) (some 126) rfl rfl (by kernel_rfl) (fun _ _ _ h => h) (Or.inl ⟨by rfl, ?_⟩) (by assumption) ?_
                          rotate_left
                          · (intro w hSw; obtain ⟨z0, z1, z2, z3, z4⟩ := hSw; go_simp; all_goals with_reducible rfl)
                          try simp only [Act.put, List.setIfInBounds_toArray, List.set_cons_zero, List.set_cons_succ]
                          refine anyH_take (i := 4) (v := ?_) (some 127) rfl rfl (by kernel_rfl) (fun _ _ _ h => h) (Or.inl ⟨by rfl, ?_⟩) (by assumption) ?_
                          rotate_left
                          · (intro w hSw; go_simp; all_goals with_reducible rfl)
                          try simp only [Act.put, List.setIfInBounds_toArray, List.set_cons_zero, List.set_cons_succ]
                          refine anyH_take (i := 5) (v := ?_) (some 128) rfl rfl (by kernel_rfl) (fun _ _ _ h => h) (Or.inl ⟨by rfl, ?_⟩) (by assumption) ?_
                          rotate_left
                          · (intro w hSw; go_simp; all_goals with_reducible rfl)
                          try simp only [Act.put, List.setIfInBounds_toArray, List.set_cons_zero, List.set_cons_succ]
                          refine anyH_take (i := 6) (v := ?_) (some 129) rfl rfl (by kernel_rfl) (fun _ _ _ h => h) (Or.inl ⟨by rfl, ?_⟩) (by assumption) ?_
                          rotate_left
                          · (intro w hSw; go_simp; all_goals with_reducible rfl)
                          try simp only [Act.put, List.setIfInBounds_toArray, List.set_cons_zero, List.set_cons_succ]
                          refine anyH_take (i := 7) (v := ?_) (some 130) rfl rfl (by kernel_rfl) (fun _ _ _ h => h) (Or.inl ⟨by rfl, ?_⟩) (by assumption) ?_
                          rotate_left
                          · (intro w hSw; obtain ⟨z0, z1, z2, z3, z4⟩ := hSw; go_simp; all_goals with_reducible rfl)
                          try simp only [Act.put, List.setIfInBounds_toArray, List.set_cons_zero, List.set_cons_succ]
                          refine anyH_take (i := 8) (v := ?_) (some 131) rfl rfl (by kernel_rfl) (fun _ _ _ h => h) (Or.inl ⟨by rfl, ?_⟩) (by assumption) ?_
                          rotate_left
                          · (intro w hSw; go_simp; all_goals with_reducible rfl)
                          try simp only [Act.put, List.setIfInBounds_toArray, List.set_cons_zero, List.set_cons_succ]
                          refine anyH_take (i := 9) (v := ?_) (some 132) rfl rfl (by kernel_rfl) (fun _ _ _ h => h) (Or.inl ⟨by rfl, ?_⟩) (by assumption) ?_
                          rotate_left
                          · (intro w hSw; go_simp; all_goals with_reducible rfl)
                          try simp only [Act.put, List.setIfInBounds_toArray, List.set_cons_zero, List.set_cons_succ]
                          refine anyH_take (i := 10) (v := ?_) (some 133) rfl rfl (by kernel_rfl) (fun _ _ _ h => h) (Or.inl ⟨by rfl, ?_⟩) (by assumption) ?_
                          rotate_left
                          · (intro w hSw; go_simp; all_goals with_reducible rfl)
                          try simp only [Act.put, List.setIfInBounds_toArray, List.set_cons_zero, List.set_cons_succ]
                          refine anyH_take (i := 11) (v := ?_) (some 134) rfl rfl (by kernel_rfl) (fun _ _ _ h => h) (Or.inl ⟨by rfl, ?_⟩) (by assumption) ?_
                          rotate_left
                          · (intro w hSw; obtain ⟨z0, z1, z2, z3, z4⟩ := hSw; go_simp; all_goals with_reducible rfl)
                          try simp only [Act.put, List.setIfInBounds_toArray, List.set_cons_zero, List.set_cons_succ]
                          refine anyH_take (i := 12) (v := ?_) (some 135) rfl rfl (by kernel_rfl) (fun _ _ _ h => h) (Or.inl ⟨by rfl, ?_⟩) (by assumption) ?_
                          rotate_left
                          · (intro w hSw; go_simp; all_goals with_reducible rfl)
                          try simp only [Act.put, List.setIfInBounds_toArray, List.set_cons_zero, List.set_cons_succ]
                          refine anyH_take (i := 13) (v := ?_) (some 136) rfl rfl (by kernel_rfl) (fun _ _ _ h => h) (Or.inl ⟨by rfl, ?_⟩) (by assumption) ?_
                          rotate_left
                          · (intro w hSw; go_simp; all_goals with_reducible rfl)
                          try simp only [Act.put, List.setIfInBounds_toArray, List.set_cons_zero, List.set_cons_succ]
                          refine anyH_take (i := 14) (v := ?_) (some 137) rfl rfl (by kernel_rfl) (fun _ _ _ h => h) (Or.inl ⟨by rfl, ?_⟩) (by assumption) ?_
                          rotate_left
                          · (intro w hSw; go_simp; all_goals with_reducible rfl)
                          try simp only [Act.put, List.setIfInBounds_toArray, List.set_cons_zero, List.set_cons_succ]
                          refine anyH_take (i := 15) (v := ?_) (some 138) rfl rfl (by kernel_rfl) (fun _ _ _ h => h) (Or.inl ⟨by rfl, ?_⟩) (by assumption) ?_
                          rotate_left
                          · (intro w hSw; obtain ⟨z0, z1, z2, z3, z4⟩ := hSw; go_simp; all_goals with_reducible rfl)
                          try simp only [Act.put, List.setIfInBounds_toArray, List.set_cons_zero, List.set_cons_succ]
                          refine anyH_one (i := 16) (by kernel_rfl) rfl (fun K hK => ?_)
                          go_simp
                          go_at_call 16
                          (with_reducible refine (hWI _).mono ?_)
                          rintro e w2 ⟨rfl, hb2⟩
                          refine hK.out _ _ ⟨cell_on hb2 hHeld.1, cell_on hb2 hHeld.2.1, cell_on hb2 hHeld.2.2.1, cell_on hb2 hHeld.2.2.2.1, below2 hHeld.2.2.2.2 hHeld.2.2.2.2.size hb2⟩ (fun hHeld => ?_)
                          clear hK K
                          try simp only [Act.put, List.setIfInBounds_toArray, List.set_cons_zero, List.set_cons_succ]
                          refine anyH_take (i := 17) (v := ?_) (some 140) rfl rfl (by kernel_rfl) (fun _ _ _ h => h) (Or.inl ⟨by rfl, ?_⟩) (by assumption) ?_
                          rotate_left
                          · (intro w hSw; go_simp; all_goals with_reducible rfl)
                          try simp only [Act.put, List.setIfInBounds_toArray, List.set_cons_zero, List.set_cons_succ]
                          refine wpAnyH_done (by kernel_rfl) ?_ _
                          go_wp2_with fail
                          go_roundw
                          case rel => exact ⟨j + 1, by omega, by simp, hHeld.2.2.2.2⟩
                          case measure =>
                            simp [intOf]
                            omega
                        · obtain rfl : j = i := by omega
                          go_wp2_with fail
                          go_roundw
                          case rel => exact ⟨j + 1, by omega, by simp, hbI⟩
                          case measure =>
                            simp [intOf]
                            omega
                    · obtain rfl : i = T.length := by omega
                      go_wp2_with fail
                      go_roundw
                      case rel => exact ⟨N + 1, p', n', c', by omega, by simp, hTu2, hn3, hM2.below hbI⟩
                      case measure =>
                        simp [intOf]
                        omega
          · have hlt2' : ¬ (N : Int) < Rq := hlt2
            have hbE := below2 hb hb.size hM.k
            go_wp2_with (first | (go_at_call 18; (with_reducible refine (lives_any _).mono ?_); rintro e w1 ⟨rfl, rfl⟩))
            go_ret
            exact ⟨rfl, hbE⟩
end
end Go.Proofs.Ytdfccjhmpgoacaa.Str
