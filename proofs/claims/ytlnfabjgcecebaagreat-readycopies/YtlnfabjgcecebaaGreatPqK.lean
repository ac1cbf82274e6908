/- The passes with which threads come to wait and behind a pick; wait. -/
import Derived.Test.YtlnfabjgcecebaaGreatPqA
namespace Go.Proofs.YtlnfabjgcecebaaGreat.Pq
open Go Go.RowKit Go.Proofs.YtlnfabjgcecebaaGreat.Str Go.Proofs.YtlnfabjgcecebaaGreat.Rd
open Go.Proofs.YtlnfabjgcecebaaGreat.Hp (Step Disj HQ)

theorem first_any (p : Option Addr) (now : Int) (w : World) : Calls Tryz.prog 45 #[.pointer p, .int .i64 now] w fun e w' => e = .returned (.int .i64 now) ∧ w' = w := by
  go_enter Tryz.func45, Tryz.ntmps45
  go_wp2_with fail
  go_ret
  exact ⟨rfl, rfl⟩
theorem again_any {w : World} {G k : Nat} {s p now : Int} (c1 : w.cell? ⟨G, k + 1, none⟩ = some (.int .i64 s)) (c2 : w.cell? ⟨G, k + 2, none⟩ = some (.int .i64 p)) (hn0 : -9223372036854775808 ≤ now) (hn1 : now ≤ 9223372036854775807) (hs0 : -9223372036854775808 ≤ s) (hs1 : s ≤ 9223372036854775807) :
    Calls Tryz.prog 67 #[.pointer (some ⟨G, k, none⟩), .int .i64 now] w fun e w' => e = .returned (.int .i64 (entI p now s)) ∧ Hp.Drawn w w' := by
  have E := fun W => enter_any p now s W hn0 hn1 hs0 hs1
  generalize entI p now s = z at *
  go_enter Tryz.func67, Tryz.ntmps67
  go_wp2_with fail
  go_quiet ((go_at_call 89; with_reducible exact Calls.quiet_of_same (E _)))
  go_wp2_with fail
  go_ret
  exact ⟨rfl, ⟨_, rfl⟩⟩
theorem charged_any {w : World} {G k : Nat} {s p : Int} (c1 : w.cell? ⟨G, k + 1, none⟩ = some (.int .i64 s)) (c2 : w.cell? ⟨G, k + 2, none⟩ = some (.int .i64 p)) (hp0 : -9223372036854775808 ≤ p) (hp1 : p ≤ 9223372036854775807) (hs0 : -9223372036854775808 ≤ s) (hs1 : s ≤ 9223372036854775807) (hf : Big.fitsB (p + s) = true) :
    Calls Tryz.prog 47 #[.pointer (some ⟨G, k, none⟩)] w fun e w' => e = .returned (.int .i64 (p + s)) ∧ Hp.Drawn w w' := by
  have E := fun W => charge_any p s W hp0 hp1 hs0 hs1
  rw [hf, show Big.toldI (p + s) = p + s by simp [Big.toldI, hf]] at E
  clear hf
  generalize p + s = z at *
  go_enter Tryz.func47, Tryz.ntmps47
  go_wp2_with fail
  go_quiet ((go_at_call 75; with_reducible exact Calls.quiet_of_same (E _)))
  go_wp2_with fail
  go_ret
  exact ⟨rfl, ⟨_, rfl⟩⟩

section
variable {w w' : World} {B G H N : Nat} {TH TH' : List Nat} {σ : Qs} {q q' : List Hp.Th}
/-- What the heap's Put makes of those that wait, if it is not there. -/
theorem put_in {N k : Nat} {q : List Hp.Th} {key : Int} (hk : k < N) (hq : Hp.hasB q (k : Int) = false) : Hp.putS N q (k : Int) key = Hp.insq (k, key) q ∧ Hp.askE N q (k : Int) false 5 = 0 := by
  have e : Hp.askE N q (k : Int) false 5 = 0 := by
    unfold Hp.askE
    rw [if_pos (Hp.inN_of hk), if_pos hq]
  unfold Hp.putS
  rw [if_pos e]
  exact ⟨by rw [Int.toNat_natCast], e⟩
/-- One that waits now, its pass being x. -/
def inS (σ : Qs) (k : Nat) (x : Int) : Qs := ⟨σ.now, σ.L.set k (1, (rw σ.L k).2.1, x, (rw σ.L k).2.2.2)⟩
theorem QM.inS (h : QM w B G H TH N σ q) {k : Nat} (hk : k < N) (x : Int) : QM ((w.setCell ⟨G, k * 4, none⟩ (.int .i64 1)).setCell ⟨G, k * 4 + 2, none⟩ (.int .i64 x)) B G H TH N (Pq.inS σ k x) q := by
  have h1 := h.f0 hk 1
  have h2 := h1.f2 hk x
  have hl : k < σ.L.length := by rw [h.len]; exact hk
  rw [rw_set_same hl, List.set_set] at h2
  exact h2
set_option maxRecDepth 100000 in
set_option maxHeartbeats 2000000 in
theorem waitF_any (h : QM w B G H TH N σ q) {k : Nat} (hk : k < N) (hq : Hp.hasB q (k : Int) = false) :
    Calls Tryz.prog 44 #[.pointer (some ⟨B, 0, none⟩), .int .i64 k, .func (.func 45) #[] #[]] w fun e w' => e = .returned (.tuple #[]) ∧ ∃ TH', QM w' B G H TH' N (inS σ k σ.now) (Hp.insq (k, σ.now) q) ∧ Step (B :: G :: TH) w (B :: G :: TH') w' := by
  obtain ⟨c, hc1, hc2, c0⟩ := h.c0
  have c2 := h.c2
  have g0 := h.r0 hk
  have g2 := h.r2 hk
  have f0 := h.fg (k * 4)
  have f2 := h.fg (k * 4 + 2)
  have hk' : (k : Int) < (N : Int) := by omega
  have F := fun p W => first_any p σ.now W
  have h1 := h.inS hk σ.now
  have b1 : Hp.But (B :: G :: TH) w ((w.setCell ⟨G, k * 4, none⟩ (.int .i64 1)).setCell ⟨G, k * 4 + 2, none⟩ (.int .i64 σ.now)) := (butG w B TH _ _).trans (butG _ B TH _ _)
  generalize σ.now = x at *
  have e3 : (rw (inS σ k x).L k).2.2.1 = x := by
    show (rw (σ.L.set k _) k).2.2.1 = x
    rw [rw_set_same (by rw [h.len]; exact hk)]
  obtain ⟨e1, e2⟩ := put_in (key := x) hk hq
  generalize inS σ k x = s at *
  have d1 := h1.c1
  have d2 := h1.r2 hk
  rw [e3] at d2
  clear e3 hq
  go_enter Tryz.func44, Tryz.ntmps44
  go_upto_region 2 with (first | (go_at_call 45; (with_reducible refine (F _ _).mono ?_); rintro e w1 ⟨rfl, hw⟩; subst w1))
  generalize hW : (w.setCell ⟨G, k * 4, none⟩ (.int .i64 1)).setCell ⟨G, k * 4 + 2, none⟩ (.int .i64 x) = W at *
  clear hW
  have h1d := h1.drew
  have P : ∀ W', QM W' B G H TH N s q → Calls Tryz.prog 72 #[.pointer (some ⟨H, 0, none⟩), .int .i64 (k : Int), .int .i64 x] W' fun e w' => e = .returned (.int .i64 0) ∧ ∃ T', HQ w' H T' N (Hp.insq (k, x) q) ∧ Step TH W' T' w' := fun W' h => by
    have := Hp.put_any h.h (k : Int) x
    rw [e1, e2] at this
    exact this
  clear e1 e2
  have hS : W.drew.cell? ⟨B, 1, none⟩ = some (.pointer (some ⟨H, 0, none⟩)) ∧ W.drew.cell? ⟨G, k * 4 + 2, none⟩ = some (.int .i64 x) := ⟨d1, d2⟩
  go_region_held3 (fun w' => w'.cell? ⟨B, 1, none⟩ = some (.pointer (some ⟨H, 0, none⟩)) ∧ w'.cell? ⟨G, k * 4 + 2, none⟩ = some (.int .i64 x)) (first | with_reducible assumption | with_reducible exact hS) (first
    | (go_at_call 72; (with_reducible refine (P _ h1d).mono ?_); rintro e w2 ⟨rfl, TH2, q2, s2⟩; have h2 := h1d.heap q2 s2; have k2 : w2.cell? ⟨B, 1, none⟩ = some (.pointer (some ⟨H, 0, none⟩)) ∧ w2.cell? ⟨G, k * 4 + 2, none⟩ = some (.int .i64 x) := ⟨s2.but.cell' hS.1 h1d.bh, s2.but.cell' hS.2 h1d.gh⟩))
  all_goals
    go_wp2_with fail
    go_end0
    exact ⟨rfl, TH2, h2, ((Step.same b1).trans (Step.keep (Hp.But.refl [] W).drew)).trans (wide2 B G s2)⟩
set_option maxRecDepth 100000 in
set_option maxHeartbeats 2000000 in
theorem waitA_any (h : QM w B G H TH N σ q) {k : Nat} (hk : k < N) (hq : Hp.hasB q (k : Int) = false) (hn0 : -9223372036854775808 ≤ σ.now) (hn1 : σ.now ≤ 9223372036854775807) :
    Calls Tryz.prog 44 #[.pointer (some ⟨B, 0, none⟩), .int .i64 k, .func (.func 67) #[] #[]] w fun e w' => e = .returned (.tuple #[]) ∧ ∃ TH', QM w' B G H TH' N (inS σ k (entI (rw σ.L k).2.2.1 σ.now (strI (rw σ.L k).2.1))) (Hp.insq (k, (entI (rw σ.L k).2.2.1 σ.now (strI (rw σ.L k).2.1))) q) ∧ Step (B :: G :: TH) w (B :: G :: TH') w' := by
  obtain ⟨c, hc1, hc2, c0⟩ := h.c0
  have c2 := h.c2
  have g0 := h.r0 hk
  have g2 := h.r2 hk
  have f0 := h.fg (k * 4)
  have f2 := h.fg (k * 4 + 2)
  have hk' : (k : Int) < (N : Int) := by omega
  have hs := str_bd (rw σ.L k).2.1
  have g1 := h.r1 hk
  have A := again_any g1 g2 hn0 hn1 (by omega) (by omega)
  obtain ⟨x, hx⟩ : ∃ x, entI (rw σ.L k).2.2.1 σ.now (strI (rw σ.L k).2.1) = x := ⟨_, rfl⟩
  rw [hx] at A ⊢
  have h1 := fun n => (h.keep ((Hp.But.refl [] w).drewN n)).inS hk x
  have b1 := fun n => show Hp.But (B :: G :: TH) w (((w.drewN n).setCell ⟨G, k * 4, none⟩ (.int .i64 1)).setCell ⟨G, k * 4 + 2, none⟩ (.int .i64 x)) from ((Hp.But.refl _ w).drewN n).trans ((butG _ B TH _ _).trans (butG _ B TH _ _))
  clear hx hs
  have e3 : (rw (inS σ k x).L k).2.2.1 = x := by
    show (rw (σ.L.set k _) k).2.2.1 = x
    rw [rw_set_same (by rw [h.len]; exact hk)]
  obtain ⟨e1, e2⟩ := put_in (key := x) hk hq
  generalize inS σ k x = s at *
  have d1 := fun n => (h1 n).c1
  have d2 := fun n => (h1 n).r2 hk
  rw [e3] at d2
  clear e3 hq
  go_enter Tryz.func44, Tryz.ntmps44
  go_upto_region 2 with (first | (go_at_call 67; (with_reducible refine A.mono ?_); rintro e w1 ⟨rfl, n, rfl⟩))
  have h1 := h1 n
  have d1 := d1 n
  have d2 := d2 n
  have b1 := b1 n
  generalize hW : ((w.drewN n).setCell ⟨G, k * 4, none⟩ (.int .i64 1)).setCell ⟨G, k * 4 + 2, none⟩ (.int .i64 x) = W at *
  clear hW
  have h1d := h1.drew
  have P : ∀ W', QM W' B G H TH N s q → Calls Tryz.prog 72 #[.pointer (some ⟨H, 0, none⟩), .int .i64 (k : Int), .int .i64 x] W' fun e w' => e = .returned (.int .i64 0) ∧ ∃ T', HQ w' H T' N (Hp.insq (k, x) q) ∧ Step TH W' T' w' := fun W' h => by
    have := Hp.put_any h.h (k : Int) x
    rw [e1, e2] at this
    exact this
  clear e1 e2
  have hS : W.drew.cell? ⟨B, 1, none⟩ = some (.pointer (some ⟨H, 0, none⟩)) ∧ W.drew.cell? ⟨G, k * 4 + 2, none⟩ = some (.int .i64 x) := ⟨d1, d2⟩
  go_region_held3 (fun w' => w'.cell? ⟨B, 1, none⟩ = some (.pointer (some ⟨H, 0, none⟩)) ∧ w'.cell? ⟨G, k * 4 + 2, none⟩ = some (.int .i64 x)) (first | with_reducible assumption | with_reducible exact hS) (first
    | (go_at_call 72; (with_reducible refine (P _ h1d).mono ?_); rintro e w2 ⟨rfl, TH2, q2, s2⟩; have h2 := h1d.heap q2 s2; have k2 : w2.cell? ⟨B, 1, none⟩ = some (.pointer (some ⟨H, 0, none⟩)) ∧ w2.cell? ⟨G, k * 4 + 2, none⟩ = some (.int .i64 x) := ⟨s2.but.cell' hS.1 h1d.bh, s2.but.cell' hS.2 h1d.gh⟩))
  all_goals
    go_wp2_with fail
    go_end0
    exact ⟨rfl, TH2, h2, ((Step.same b1).trans (Step.keep (Hp.But.refl [] W).drew)).trans (wide2 B G s2)⟩
end
end Go.Proofs.YtlnfabjgcecebaaGreat.Pq
