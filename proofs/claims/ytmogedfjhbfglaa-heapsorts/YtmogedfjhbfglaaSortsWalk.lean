/- The walk of HeapSorts. -/
import Derived.Test.YtmogedfjhbfglaaFill
import Derived.Test.YtmogedfjhbfglaaOpens
namespace Go.Proofs.Ytmogedfjhbfglaa
open Go.RowKit

set_option maxRecDepth 100000 in
set_option maxHeartbeats 4000000 in
theorem sorts_any (a : Option Addr) (c : Nat) (ks : List Int) (w : World) (hk : Ints .i64 w a ks) :
    Calls Try.prog 4 #[.slice a ks.length c] w fun e w' => e = .returned (.bool true) ∧ Below w.heap.size w w' := by
  by_cases hlen : 200 < ks.length
  · have hlen' : (200 : Int) < (ks.length : Int) := by omega
    go_enter Try.func4, Try.ntmps4
    go_wp2_with (first
      | (go_at_call 8; refine (lives_any _).mono ?_; rintro e w2 ⟨rfl, b2⟩))
    go_ret
    exact ⟨rfl, b2⟩
  · have hlen' : (ks.length : Int) ≤ 200 := by omega
    go_enter Try.func4, Try.ntmps4
    go_wp2_with (first
      | (go_at_call 9; refine (new_some 200 (by decide) (by decide) _).mono ?_; rintro e w1 ⟨B, T1, rfl, h1, s1⟩))
    go_loopw [21, 4, 5] (fun v _ _ wr => ∃ (j : Nat) (T : List Nat) (q : List Th), j ≤ ks.length ∧ v = .int .i64 j ∧ HQ wr B T 200 q ∧ q.Perm (prs (ks.take j)) ∧ Step [] w T wr) (fun v _ _ _ => 200 - (intOf v).toNat)
    case atStart => exact ⟨0, T1, [], by omega, rfl, h1, List.Perm.refl _, s1⟩
    case round =>
      clear h1 s1
      obtain ⟨j, T, q, hj, rfl, h1, hq, s1⟩ := hrel
      by_cases hlt : j < ks.length
      · obtain ⟨b, o, rfl, hc⟩ := hk.below s1.below j ks[j] (by simp)
        have hx : ks[j]? = some ks[j] := List.getElem?_eq_getElem hlt
        obtain ⟨e0, hq2⟩ := put_next (N := 200) hq hx (by omega)
        generalize ks[j] = x at *
        have PU := put_any h1 (j : Int) x
        rw [e0] at PU
        generalize putS 200 q (j : Int) x = q2 at *
        have hlt' : (j : Int) < (ks.length : Int) := by omega
        clear hx e0
        go_wp2_with (first
          | (go_at_call 20; refine PU.mono ?_; rintro e w2 ⟨rfl, T2, h2, s2⟩))
        go_roundw
        case rel => exact ⟨j + 1, T2, q2, by omega, by simp, h2, hq2, s1.trans s2⟩
        case measure =>
          simp [intOf]
          omega
      · obtain rfl : j = ks.length := by omega
        rw [List.take_length] at hq
        have hall : ∀ p ∈ q, ks[p.1]? = some p.2 := fun p hp => prs_mem.1 (hq.subset hp)
        have hql : q.length = ks.length := by rw [hq.length_eq, prs_len]
        clear hq
        go_wp2_with fail
        go_loopw [6, 7, 8, 9, 10, 11] (fun vl vw vn _ _ _ wr => ∃ (n : Nat) (l y : Int) (T : List Nat) (q : List Th), vl = .int .i64 l ∧ vw = .int .i64 y ∧ vn = .int .i64 n ∧ n + q.length = ks.length ∧ HQ wr B T 200 q ∧ (∀ p ∈ q, ks[p.1]? = some p.2) ∧ (n = 0 ∨ ∃ r : Th, l = r.1 ∧ y = r.2 ∧ ∀ p ∈ q, befB r p = true) ∧ Step [] w T wr) (fun _ _ vn _ _ _ _ => 200 - (intOf vn).toNat)
        case atStart => exact ⟨0, -1, 0, T, q, rfl, rfl, rfl, by omega, h1, hall, .inl rfl, s1⟩
        case round =>
          clear h1 s1 hall hql
          obtain ⟨n, l, y, T, q, rfl, rfl, rfl, hn, h1, hall, hor, s1⟩ := hrel
          have PO := pop_any h1
          have hs := h1.srt
          cases q with
          | nil =>
            obtain rfl : n = ks.length := by simpa using hn
            clear hn hor hs hall
            go_wp2_with (first
              | (go_at_call 21; (with_reducible refine PO.mono ?_); rintro e w2 ⟨rfl, T2, h2, s2⟩; simp only [fstI, fstK, fstB])
              | (go_at_call 13; (with_reducible refine (lenq_any h2).mono ?_); rintro e w' ⟨rfl, hw⟩; subst w')
              | (go_at_call 8; refine (lives_any _).mono ?_; rintro e w3 ⟨rfl, b3⟩))
            go_ret
            have s3 := (s1.trans s2).below
            exact ⟨rfl, s3.trans (b3.mono s3.size)⟩
          | cons p r =>
            obtain ⟨hs1, hs2⟩ := List.pairwise_cons.1 hs
            have hp := hall p (by simp)
            have hlt := (List.getElem?_eq_some_iff.1 hp).1
            obtain ⟨b, o, rfl, hc0⟩ := hk p.1 p.2 hp
            have HC : ∀ W, Below w.heap.size w W → W.cell? ⟨b, o + p.1, none⟩ = some (.int .i64 p.2) := fun W hW => cell_on hW hc0
            have hall2 : ∀ a ∈ r, ks[a.1]? = some a.2 := fun a ha => hall a (by simp [ha])
            have hn2 : n + 1 + r.length = ks.length := by
              rw [List.length_cons] at hn
              omega
            have hlt' : (p.1 : Int) < (ks.length : Int) := by omega
            have hor2 : n = 0 ∨ ∃ r0 : Th, l = r0.1 ∧ y = r0.2 ∧ befB r0 p = true := hor.imp id (fun ⟨r0, a, b, c⟩ => ⟨r0, a, b, c p (by simp)⟩)
            rw [List.tail_cons] at PO
            clear hor hs hs2 hall hp hc0 hn hk
            obtain ⟨i, x⟩ := p
            dsimp only at *
            rcases hor2 with rfl | ⟨⟨ri, rx⟩, rfl, rfl, hb⟩
            · clear hlen
              go_wp2_with (first
                | (go_at_call 21; (with_reducible refine PO.mono ?_); rintro e w2 ⟨rfl, T2, h2, s2⟩; simp only [fstI, fstK, fstB]; have s3 := s1.trans s2; have hc := HC _ s3.below))
              go_roundw
              case rel => exact ⟨1, i, x, T2, r, by simp, by simp, by simp, by omega, h2, hall2, .inr ⟨(i, x), rfl, rfl, hs1⟩, s3⟩
              case measure =>
                simp [intOf]
            · rw [befB_iff] at hb
              dsimp only at hb
              have h1' : ¬ x < y := by omega
              by_cases hx : x = y
              · subst hx
                have h2' : ¬ (i : Int) < (ri : Int) := by omega
                go_wp2_with (first
                  | (go_at_call 21; (with_reducible refine PO.mono ?_); rintro e w2 ⟨rfl, T2, h2, s2⟩; simp only [fstI, fstK, fstB]; have s3 := s1.trans s2; have hc := HC _ s3.below))
                all_goals
                  go_roundw
                  case rel => exact ⟨n + 1, i, x, T2, r, by simp, by simp, by simp, by omega, h2, hall2, .inr ⟨(i, x), rfl, rfl, hs1⟩, s3⟩
                  case measure =>
                    simp [intOf]
                    omega
              · have h2' : (x == y) = false := by simpa using hx
                go_wp2_with (first
                  | (go_at_call 21; (with_reducible refine PO.mono ?_); rintro e w2 ⟨rfl, T2, h2, s2⟩; simp only [fstI, fstK, fstB]; have s3 := s1.trans s2; have hc := HC _ s3.below))
                all_goals
                  go_roundw
                  case rel => exact ⟨n + 1, i, x, T2, r, by simp, by simp, by simp, by omega, h2, hall2, .inr ⟨(i, x), rfl, rfl, hs1⟩, s3⟩
                  case measure =>
                    simp [intOf]
                    omega
end Go.Proofs.Ytmogedfjhbfglaa
