/- Contracts of the reference's may, All, Push, Front. -/
import Derived.Test.YtpaedcknhlojkaaRef
import Derived.Deep.RegionLaw
namespace Go.Proofs.Ytpaedcknhlojkaa
open Go.RowKit

theorem Ok.put {N L : Nat} {ls : List (List Nat)} (h : Ok N L ls) {i t : Nat} {pre post : List Nat} (hq : ls[i]? = some (pre ++ post)) (ht : t < N) (hn : ∀ (j : Nat) (q : List Nat), ls[j]? = some q → t ∉ q) : Ok N L (ls.set i (pre ++ t :: post)) := by
  have hm : ∀ x, x ∈ pre ++ t :: post → x = t ∨ x ∈ pre ++ post := fun x hx => by
    simp at hx ⊢
    rcases hx with hx | hx | hx
    · exact .inr (.inl hx)
    · exact .inl hx
    · exact .inr (.inr hx)
  refine h.set (fun x hx => ?_) ?_ (fun j q hj hji x hx => ?_)
  · rcases hm x hx with rfl | hx
    · exact ht
    · exact h.lt i _ hq x hx
  · have hp : (pre ++ t :: post).Perm (t :: (pre ++ post)) := List.perm_middle
    rw [hp.nodup_iff]
    exact List.nodup_cons.2 ⟨hn i _ hq, h.nd i _ hq⟩
  · rcases hm x hx with rfl | hx
    · exact hn j q hj
    · exact h.dj i j _ q hq hj (Ne.symm hji) x hx
theorem Ok.sub {N L : Nat} {ls : List (List Nat)} (h : Ok N L ls) {i : Nat} {q p : List Nat} (hq : ls[i]? = some q) (hs : p.Sublist q) : Ok N L (ls.set i p) :=
  h.set (fun x hx => h.lt i q hq x (hs.subset hx)) ((h.nd i q hq).sublist hs) (fun j r hj hji x hx => h.dj i j q r hq hj (Ne.symm hji) x (hs.subset hx))

section
variable {w : World} {lo M LB N L : Nat} {ls : List (List Nat)}

theorem rmay_any (h : RL w lo M LB N L ls) (i t : Int) :
    Calls Try.prog 45 #[.pointer (some ⟨M, 0, none⟩), .int .i64 i, .int .i64 t] w fun e w' => e = .returned (.int .i64 (putE N L ls i t)) ∧ w' = w := by
  have HL := rlist_any h i
  have HT := rthing_any h t
  have HW := rwhere_any h t
  have hw : wI ls t = -1 ∨ 0 ≤ wI ls t := by
    unfold wI
    split
    · rcases whI_cases h.ok.len t.toNat with ⟨e, _⟩ | ⟨j, q, _, _, e, _⟩ <;> omega
    · exact .inl rfl
  unfold putE
  generalize inN L i = b1 at *
  generalize inN N t = b2 at *
  generalize wI ls t = y at *
  cases b1 with
  | false =>
    go_enter Try.func45, Try.ntmps45
    go_wp2_with (first
      | (go_at_call 34; refine HL.mono ?_; rintro e w' ⟨rfl, hw⟩; subst w'))
    go_ret
    exact ⟨rfl, rfl⟩
  | true =>
    cases b2 with
    | false =>
      go_enter Try.func45, Try.ntmps45
      go_wp2_with (first
        | (go_at_call 34; refine HL.mono ?_; rintro e w' ⟨rfl, hw⟩; subst w')
        | (go_at_call 46; refine HT.mono ?_; rintro e w' ⟨rfl, hw⟩; subst w'))
      go_ret
      exact ⟨rfl, rfl⟩
    | true =>
      rw [Bool.and_true, if_pos rfl]
      rcases hw with rfl | hy
      · rw [if_pos rfl]
        go_enter Try.func45, Try.ntmps45
        go_wp2_with (first
          | (go_at_call 34; refine HL.mono ?_; rintro e w' ⟨rfl, hw⟩; subst w')
          | (go_at_call 46; refine HT.mono ?_; rintro e w' ⟨rfl, hw⟩; subst w')
          | (go_at_call 13; refine HW.mono ?_; rintro e w' ⟨rfl, hw⟩; subst w'))
        go_ret
        exact ⟨rfl, rfl⟩
      · rw [if_neg (by omega)]
        go_enter Try.func45, Try.ntmps45
        go_wp2_with (first
          | (go_at_call 34; refine HL.mono ?_; rintro e w' ⟨rfl, hw⟩; subst w')
          | (go_at_call 46; refine HT.mono ?_; rintro e w' ⟨rfl, hw⟩; subst w')
          | (go_at_call 13; refine HW.mono ?_; rintro e w' ⟨rfl, hw⟩; subst w'))
        go_ret
        exact ⟨rfl, rfl⟩

set_option maxHeartbeats 1000000 in
theorem rall_any (h : RL w lo M LB N L ls) (i : Int) :
    Calls Try.prog 15 #[.pointer (some ⟨M, 0, none⟩), .int .i64 i] w fun e w' => ∃ a c, e = .returned (.slice a (lsI ls i).length c) ∧ RowI w' w.heap.size (.slice a (lsI ls i).length c) (ints (lsI ls i)) ∧ But [] w w' := by
  have HL := rlist_any h i
  cases hb : inN L i with
  | false =>
    rw [lsI_out h.ok hb]
    rw [hb] at HL
    go_enter Try.func15, Try.ntmps15
    go_wp2_with (first
      | (go_at_call 34; refine HL.mono ?_; rintro e w' ⟨rfl, hw⟩; subst w'))
    go_ret
    exact ⟨none, 0, rfl, World.ownsRow_nil _ _ _ _, But.refl _ _⟩
  | true =>
    rw [hb] at HL
    obtain ⟨k, rfl, hk⟩ := inN_out hb
    have hq := h.ok.at hk
    have hle := h.ok.short hq
    have hN := h.n
    obtain ⟨a, c, hc, hr⟩ := h.row hq
    have c1 := h.c1
    have OW := own_none w
    have d1 : (w.alloc (.cells #[] 3)).cell? ⟨M, 1, none⟩ = some (.slice (some ⟨LB, 0, none⟩) L L) := ((But.refl [] w).alloc _).cell c1
    have d2 : (w.alloc (.cells #[] 3)).cell? ⟨LB, k, none⟩ = some (.slice a (lsI ls (k : Int)).length c) := ((But.refl [] w).alloc _).cell hc
    have HR := hr.reads.but ((But.refl [] w).alloc (.cells #[] 3))
    have hl := ints_len (lsI ls (k : Int))
    have Hl : Hid ((ints (lsI ls (k : Int))).length = (lsI ls (k : Int)).length) := hl
    have hk' : (k : Int) < (L : Int) := by omega
    clear hl hb hq
    generalize lsI ls (k : Int) = q at *
    go_enter Try.func15, Try.ntmps15
    go_wp2_with (first
      | (go_at_call 34; refine HL.mono ?_; rintro e w' ⟨rfl, hw⟩; subst w')
      | (at_builtin; refine wpList_app rfl _ _ rfl w.heap.size _ 0 [] rfl OW _ _ _ (ints q) rfl Hl.out HR (by omega) (by simp) ?_; intro v2 w2 ho2 hg2; have hb2 : But [] w w2 := ((But.refl [] w).alloc _).grown hg2 (fun k e => by cases e; exact Nat.le_refl _)))
    go_ret
    rw [List.nil_append, Nat.zero_add] at ho2
    obtain ⟨a2, c2, rfl⟩ := own_shape ho2
    exact ⟨a2, c2, rfl, by unfold RowI; rw [Hl.out]; exact ho2, hb2⟩

set_option maxHeartbeats 4000000 in
theorem rfront_any (h : RL w lo M LB N L ls) (i t : Int) :
    Calls Try.prog 28 #[.pointer (some ⟨M, 0, none⟩), .int .i64 i, .int .i64 t] w fun e w' => e = .returned (.int .i64 (putE N L ls i t)) ∧ RL w' lo M LB N L (frontS N L ls i t) ∧ But [LB] w w' := by
  have HA := rmay_any h i t
  unfold frontS
  by_cases hz : putE N L ls i t = 0
  · rw [if_pos hz]
    rw [hz] at HA ⊢
    obtain ⟨k, b, rfl, rfl, hk, hb, hn⟩ := putE_zero h.ok hz
    clear hz
    rw [Int.toNat_natCast, Int.toNat_natCast]
    have hq := h.ok.at hk
    have hle := h.ok.short hq
    have hN := h.n
    have ho : Ok N L (ls.set k (b :: lsI ls (k : Int))) := h.ok.put (pre := []) hq hb hn
    obtain ⟨a, c, hc, hr⟩ := h.row hq
    have c1 := h.c1
    have hlo := h.lo
    have hl := ints_len (lsI ls (k : Int))
    have Hl : Hid ((ints (lsI ls (k : Int))).length = (lsI ls (k : Int)).length) := hl
    have PT : ∀ w1 v', But [] w w1 → RowI w1 lo v' (ints (b :: lsI ls (k : Int))) → RL (w1.setCell ⟨LB, k, none⟩ v') lo M LB N L (ls.set k (b :: lsI ls (k : Int))) ∧ But [LB] w (w1.setCell ⟨LB, k, none⟩ v') := fun w1 v' hb hr => h.put hb hk hr ho
    have hk' : (k : Int) < (L : Int) := by omega
    have hk0 : (0 : Int) ≤ (k : Int) := by omega
    have HF : ∀ w1, But [] w w1 → w1.cell? ⟨M, 1, none⟩ = some (.slice (some ⟨LB, 0, none⟩) L L) ∧ w1.cell? ⟨LB, k, none⟩ = some (.slice a (lsI ls (k : Int)).length c) ∧ w1.frozen? ⟨LB, k, none⟩ = false := fun w1 hb => ⟨hb.cell c1, hb.cell hc, (h.keep hb).fz k⟩
    have eb : ints (b :: lsI ls (k : Int)) = (b : Int) :: ints (lsI ls (k : Int)) := rfl
    rw [eb] at PT
    clear eb hl hn hq ho
    generalize ls.set k (b :: lsI ls (k : Int)) = ls' at *
    generalize lsI ls (k : Int) = q at *
    have OW := own_one w (b : Int)
    have B1 : But [] w (w.alloc (.cells #[.int .i64 (b : Int)] 3)) := (But.refl [] w).alloc _
    obtain ⟨d1, d2, d3⟩ := HF _ B1
    go_enter Try.func28, Try.ntmps28
    go_wp2_with (first
      | (go_at_call 45; refine HA.mono ?_; rintro e w' ⟨rfl, hw⟩; subst w'))
    go_region_law (first
      | (refine step_app rfl (.tmp 21) (.tmp 28) rfl w.heap.size _ 1 [(b : Int)] rfl OW.drew _ _ _ (ints q) rfl Hl.out (hr.reads.but B1.drew) (by omega) (by simp [World.drew]) ?_; intro v2 w2 ho2 hg2; have hb2 : But [] w w2 := B1.drew.grown hg2 (fun k e => by cases e; exact Nat.le_refl _); obtain ⟨sa2, sc2, rfl⟩ := own_shape ho2; obtain ⟨f1, f2, f3⟩ := HF _ hb2))
    all_goals
      go_wp2_with fail
      go_ret
      have R2 : RowI w2 lo (.slice sa2 (1 + q.length) sc2) ((b : Int) :: ints q) := by
        unfold RowI
        rw [show ((b : Int) :: ints q).length = 1 + q.length by rw [List.length_cons, Hl.out, Nat.add_comm]]
        exact row_lower ho2 hlo
      obtain ⟨r1, r2⟩ := PT _ _ hb2 R2
      exact ⟨rfl, r1, r2⟩
  · rw [if_neg hz]
    generalize putE N L ls i t = e at *
    have hz' : (e == 0) = false := by simpa using hz
    go_enter Try.func28, Try.ntmps28
    go_wp2_with (first
      | (go_at_call 45; refine HA.mono ?_; rintro e w' ⟨rfl, hw⟩; subst w'))
    go_ret
    exact ⟨rfl, h, But.refl _ _⟩
end

end Go.Proofs.Ytpaedcknhlojkaa
