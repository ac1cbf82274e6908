/- Contract of the reference's Pop. -/
import Derived.Test.YtpaedcknhlojkaaRefR
namespace Go.Proofs.Ytpaedcknhlojkaa
open Go.RowKit

theorem popS_nil {N L : Nat} {ls : List (List Nat)} (ho : Ok N L ls) {i : Int} (hn : lsI ls i = []) : popS L ls i = ls := by
  unfold popS
  split
  · rename_i hi
    obtain ⟨k, rfl, hk⟩ := inN_out hi
    have hg := ho.at hk
    rw [hn] at hg ⊢
    rw [Int.toNat_natCast]
    exact set_same hg
  · rfl

section
variable {w : World} {lo M LB N L : Nat} {ls : List (List Nat)}

set_option maxHeartbeats 4000000 in
theorem rpop_in (h : RL w lo M LB N L ls) (k : Nat) (hk : k < L) (x : Nat) (r : List Nat) (hg : lsI ls (k : Int) = x :: r) :
    Calls Try.prog 30 #[.pointer (some ⟨M, 0, none⟩), .int .i64 k] w fun e w' => e = .returned (.tuple #[.int .i64 x, .int .i64 0]) ∧ RL w' lo M LB N L (ls.set k r) ∧ But [LB] w w' := by
  have HL := rlist_any h (k : Int)
  rw [inN_of hk] at HL
  have hq := h.ok.at hk
  rw [hg] at hq
  have hle := h.ok.short hq
  rw [List.length_cons] at hle
  have hN := h.n
  have hlo := h.lo
  have hok : Ok N L (ls.set k r) := h.ok.sub hq (List.sublist_cons_self _ _)
  have PT : ∀ w1 v', But [] w w1 → RowI w1 lo v' (ints r) → RL (w1.setCell ⟨LB, k, none⟩ v') lo M LB N L (ls.set k r) ∧ But [LB] w (w1.setCell ⟨LB, k, none⟩ v') := fun w1 v' hb hr => h.put hb hk hr hok
  obtain ⟨a, c, hc, hr⟩ := h.row hq
  rw [List.length_cons] at hc hr
  have hia := hr.at
  obtain ⟨g, rfl, cx⟩ := hia 0 (x : Int) rfl
  have hcap : r.length + 1 ≤ c := by
    obtain ⟨a', c', e', h1, _⟩ := hr.shape
    injection e' with e1 e2 e3
    rw [ints_len, List.length_cons] at h1
    omega
  have c1 := h.c1
  obtain ⟨ad2, hd2⟩ : ∃ ad2, ad2 = (if c = 1 then (⟨g, 0, none⟩ : Addr) else ⟨g, 1, none⟩) := ⟨_, rfl⟩
  have R2 : Reads w (some ad2) (c - 1) (ints r) := by
    refine .inr ⟨_, rfl, fun j y hy => ?_⟩
    have hj := (List.getElem?_eq_some_iff.1 hy).1
    rw [ints_len] at hj
    rw [hd2, if_neg (by omega), WideShapes.add_plain]
    obtain ⟨g', e, hcc⟩ := hia (j + 1) y hy
    cases e
    rw [Nat.add_comm]
    exact hcc
  have Hl : Hid ((ints r).length = r.length) := ints_len r
  have hk' : (k : Int) < (L : Int) := by omega
  have hk0 : (0 : Int) ≤ (k : Int) := by omega
  have hqc : (r.length : Int) + 1 ≤ (c : Int) := by omega
  have hq1 : (1 : Int) ≤ (r.length : Int) + 1 := by omega
  have hif : (if c = 1 then some (⟨g, 0, none⟩ : Addr) else some ⟨g, 1, none⟩) = some ad2 := by rw [hd2]; split <;> rfl
  have HF : ∀ w1, But [] w w1 → w1.cell? ⟨M, 1, none⟩ = some (.slice (some ⟨LB, 0, none⟩) L L) ∧ w1.cell? ⟨LB, k, none⟩ = some (.slice (some ⟨g, 0, none⟩) (r.length + 1) c) ∧ w1.frozen? ⟨LB, k, none⟩ = false := fun w1 hb => ⟨hb.cell c1, hb.cell hc, (h.keep hb).fz k⟩
  clear hd2 hia hr hq hg hok
  generalize ls.set k r = ls' at *
  have OW := own_none w
  have B1 : But [] w (w.alloc (.cells #[] 3)) := (But.refl [] w).alloc _
  obtain ⟨d1, d2, d3⟩ := HF _ B1
  go_enter Try.func30, Try.ntmps30
  go_wp2_with (first
    | (go_at_call 34; refine HL.mono ?_; rintro e w' ⟨rfl, hw⟩; subst w'))
  go_region_law (first
    | (refine step_app rfl (.tmp 34) (.tmp 42) rfl w.heap.size _ 0 [] rfl OW.drew _ _ _ (ints r) rfl Hl.out (R2.but B1.drew) (by omega) (by simp [World.drew]) ?_; intro v2 w2 ho2 hg2; rw [Nat.zero_add, List.nil_append] at ho2; have hb2 : But [] w w2 := B1.drew.grown hg2 (fun k e => by cases e; exact Nat.le_refl _); obtain ⟨sa2, sc2, rfl⟩ := own_shape ho2; obtain ⟨f1, f2, f3⟩ := HF _ hb2))
  all_goals
    go_wp2_with fail
    go_ret2
    have R3 : RowI w2 lo (.slice sa2 r.length sc2) (ints r) := by
      unfold RowI
      rw [Hl.out]
      exact row_lower ho2 hlo
    obtain ⟨r1, r2⟩ := PT _ _ hb2 R3
    exact ⟨rfl, r1, r2⟩

theorem rpop_any (h : RL w lo M LB N L ls) (i : Int) :
    Calls Try.prog 30 #[.pointer (some ⟨M, 0, none⟩), .int .i64 i] w fun e w' => e = .returned (.tuple #[.int .i64 (popV ls i), .int .i64 (popE L ls i)]) ∧ RL w' lo M LB N L (popS L ls i) ∧ But [LB] w w' := by
  have HL := rlist_any h i
  cases hb : inN L i with
  | false =>
    rw [hb] at HL
    have hn := lsI_out h.ok hb
    have e1 : popV ls i = 0 := by unfold popV; rw [hn]; rfl
    have e2 : popE L ls i = 8 := by unfold popE; rw [hb]; simp
    rw [popS_nil h.ok hn, e1, e2]
    clear e1 e2
    go_enter Try.func30, Try.ntmps30
    go_wp2_with (first
      | (go_at_call 34; refine HL.mono ?_; rintro e w' ⟨rfl, hw⟩; subst w'))
    go_ret2
    exact ⟨rfl, h, But.refl _ _⟩
  | true =>
    rw [hb] at HL
    obtain ⟨k, rfl, hk⟩ := inN_out hb
    cases hg : lsI ls (k : Int) with
    | nil =>
      have e1 : popV ls (k : Int) = 0 := by unfold popV; rw [hg]; rfl
      have e2 : popE L ls (k : Int) = 4 := by unfold popE; rw [hb, hg]; simp
      rw [popS_nil h.ok hg, e1, e2]
      have hq := h.ok.at hk
      rw [hg] at hq
      obtain ⟨a, c, hc, hr⟩ := h.row hq
      have c1 := h.c1
      have hk' : (k : Int) < (L : Int) := by omega
      clear e1 e2 hg hq
      go_enter Try.func30, Try.ntmps30
      go_wp2_with (first
        | (go_at_call 34; refine HL.mono ?_; rintro e w' ⟨rfl, hw⟩; subst w'))
      go_ret2
      exact ⟨rfl, h, But.refl _ _⟩
    | cons x r =>
      have e1 : popV ls (k : Int) = (x : Nat) := by unfold popV; rw [hg]; rfl
      have e2 : popE L ls (k : Int) = 0 := by unfold popE; rw [hb, hg]; simp
      have e3 : popS L ls (k : Int) = ls.set k r := by unfold popS; rw [hb, if_pos rfl, hg]; simp
      rw [e1, e2, e3]
      exact rpop_in h k hk x r hg

end

end Go.Proofs.Ytpaedcknhlojkaa
