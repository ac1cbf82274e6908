/- Contract of turn: each row whose turn comes now goes down. -/
import Derived.Test.YtmjjghhlalaeiaaWx
namespace Go.Proofs.Ytmjjghhlalaeiaa
open Go.RowKit

section
variable {w w' : World} {T : Wp} {N n : Nat} {wh : List Nat}

theorem c2_on {w w' : World} {p q : Addr} {x y : Value} {S : List Nat} (hb : But S w w') (hp : p.block ∉ S) (hq : q.block ∉ S) (h : w.cell? p = some x ∧ w.cell? q = some y) : w'.cell? p = some x ∧ w'.cell? q = some y :=
  ⟨hb.cell' h.1 hp, hb.cell' h.2 hq⟩

set_option maxHeartbeats 4000000 in
theorem turn_any (h : WX w T N n wh (Rl n 1) []) (hT : Tm n) :
    Calls Try.prog 41 #[.pointer (some ⟨T.B, 0, none⟩)] w fun e w' => e = .returned (.tuple #[]) ∧ WX w' T N n wh (fun u i => i = rowN n u) [] ∧ But T.P.S w w' := by
  have c0 : w.cell? ⟨T.B, 0, none⟩ = some (.int .i64 n) := by
    obtain ⟨us, ls, hm, hp⟩ := h
    exact hm.c0
  have hBS : T.B ∉ T.P.S := by
    obtain ⟨us, ls, hm, hp⟩ := h
    have nb := hm.nb
    simp [Wp.five] at nb
    simp [Pl.S]; omega
  go_enter Try.func41, Try.ntmps41
  go_wp2_with (first
    | (go_at_call 43; (with_reducible refine (cut_any n hT.lt _).mono ?_); rintro e w1 ⟨rfl, b1⟩; unfold prtV prtC))
  generalize hW : (w1.alloc (.cells #[.int .i64 (prt 0 n : Nat), .int .i64 (prt 1 n : Nat), .int .i64 (prt 2 n : Nat), .int .i64 (prt 3 n : Nat)] 73)) = W
  have hX : W.heap[w1.heap.size]? = some (.cells (prtC n) 73 (0, 0)) := by rw [← hW]; exact heap_alloc_new w1 _
  have bW : Below w.heap.size w W := by rw [← hW]; exact b1.alloc b1.size _
  have hXs : w.heap.size ≤ w1.heap.size := b1.size
  have hXS : w1.heap.size ∉ T.P.S := fun e => by have := h.lt (Wp.PS _ e); omega
  have h1 := h.below bW
  generalize hp : Value.agg #[Value.int .i64 (prt 0 n : Nat), .int .i64 (prt 1 n : Nat), .int .i64 (prt 2 n : Nat), .int .i64 (prt 3 n : Nat)] = v1
  clear hp hW c0 h b1
  generalize w1.heap.size = X at *
  go_loopw [3] (fun p wr => ∃ l : Nat, 1 ≤ l ∧ l ≤ 4 ∧ p = .int .i64 l ∧ WX wr T N n wh (Rl n l) [] ∧ (∀ j, j ≤ 3 → wr.cell? ⟨X, j, none⟩ = some (.int .i64 (prt j n : Nat))) ∧ But T.P.S w wr) (fun p _ => 4 - (intOf p).toNat)
  case atStart => exact ⟨1, by omega, by omega, rfl, h1, fun j hj => cell_of hX (prtC_get hj), .of_below bW⟩
  case round =>
    clear h1 hX bW
    obtain ⟨l, hl1, hl4, rfl, hW, hc, hB⟩ := hrel
    by_cases hst : l < 4 ∧ prt (l - 1) n = 0
    · obtain ⟨hl, hz⟩ := hst
      have cz := hc (l - 1) (by omega)
      rw [hz] at cz
      have cl := hc l (by omega)
      have hl' : (l : Int) < 4 := by omega
      have hl0 : (0 : Int) ≤ (l : Int) := by omega
      have hlm : (l : Int) - 1 = ((l - 1 : Nat) : Int) := by omega
      have hm0 : (0 : Int) ≤ ((l - 1 : Nat) : Int) := by omega
      have hm1 : ((l - 1 : Nat) : Int) < 4 := by omega
      go_wp2_with fail
      have e1 := tmod16 (prt l n)
      have hk : prt l n % 16 < 16 := by omega
      have hk0 : (0 : Int) ≤ ((prt l n % 16 : Nat) : Int) := by omega
      have hk1 : ((prt l n % 16 : Nat) : Int) < 16 := by omega
      have cr : wr.cell? ⟨T.B, 2 + l * 16 + prt l n % 16, none⟩ = some (.int .i64 (turnR n l : Nat)) := by
        obtain ⟨us, ls, hm, hp⟩ := hW
        have := hm.cr (i := turnR n l) (turnR_lt (by omega))
        rwa [show 2 + turnR n l = 2 + l * 16 + prt l n % 16 by unfold turnR; omega] at this
      have HE := xempty_any (hW.keep (But.refl [] wr).drew) (turnR n l) (turnR_lt (by omega))
      have hS : wr.cell? ⟨X, l, none⟩ = some (.int .i64 (prt l n : Nat)) ∧ wr.cell? ⟨T.B, 2 + l * 16 + prt l n % 16, none⟩ = some (.int .i64 (turnR n l : Nat)) := ⟨cl, cr⟩
      have hSd := c2_on (S := []) ((But.refl [] wr).drew) (by simp) (by simp) hS
      have hRl : ∀ u i, Rl n l u i ∧ i ≠ turnR n l → Rl n (l + 1) u i := fun u i h => h.1.next h.2
      have hcd : ∀ j, j ≤ 3 → wr.drew.cell? ⟨X, j, none⟩ = some (.int .i64 (prt j n : Nat)) := hc
      have hBd := hB.drew
      have hltd : ∀ x ∈ T.P.S, x < wr.drew.heap.size := fun x hx => hW.lt (Wp.PS x hx)
      generalize hkk : prt l n % 16 = k at *
      generalize htt : turnR n l = tr at *
      generalize hpp : prt l n = pl at *
      clear cl cr hW hc hB hkk htt hpp hz cz
      go_region_held3 (fun w' => w'.cell? ⟨X, l, none⟩ = some (.int .i64 (pl : Nat)) ∧ w'.cell? ⟨T.B, 2 + l * 16 + k, none⟩ = some (.int .i64 (tr : Nat))) (first | with_reducible assumption | with_reducible exact hSd) (first
        | (go_at_call 42; refine HE.mono ?_; rintro e w2 ⟨v, q, rfl, hr, hnd, hql, hin, m2, b2⟩; have k2 := c2_on b2 hXS hBS hSd; obtain ⟨va, vc, rfl, -⟩ := hr.open'))
      have m3 : WX w2 T N n wh (Rl n (l + 1)) (q.drop 0) := by
        have := m2.mono (R' := Rl n (l + 1)) (fun t i _ _ h => hRl _ _ h)
        simpa using this
      have hc2 : ∀ j, j ≤ 3 → w2.cell? ⟨X, j, none⟩ = some (.int .i64 (prt j n : Nat)) := fun j hj => b2.cell' (hcd j hj) hXS
      have hB2 := hBd.trans b2
      have hin' : ∀ t ∈ q, wt wh t ≠ 0 := fun t ht => (hin t ht).2.1
      clear m2 hRl hcd hBd b2 k2 HE hSd hS hin
      rw [ints_len]
      go_wp2_with fail
      go_loopw [36] (fun p wr' => ∃ j : Nat, j ≤ q.length ∧ p = .int .i64 j ∧ RowI wr' wr.drew.heap.size (.slice va (ints q).length vc) (ints q) ∧ WX wr' T N n wh (Rl n (l + 1)) (q.drop j) ∧ (∀ j, j ≤ 3 → wr'.cell? ⟨X, j, none⟩ = some (.int .i64 (prt j n : Nat))) ∧ But T.P.S w wr') (fun p _ => 4096 - (intOf p).toNat)
      case atStart => exact ⟨0, by omega, rfl, hr, m3, hc2, hB2⟩
      case round =>
        clear hr m3 hc2 hB2
        obtain ⟨j, hj, rfl, hr, hW, hc, hB⟩ := hrel
        by_cases hjq : j < q.length
        · have hx : q[j]? = some q[j] := by simp
          have hdr : q.drop j = q[j] :: q.drop (j + 1) := List.drop_eq_getElem_cons hjq
          rw [hdr] at hW
          have hnm : q[j] ∉ q.drop (j + 1) := by
            have h2 : (q.drop j).Nodup := hnd.sublist (List.drop_sublist _ _)
            rw [hdr] at h2
            exact (List.nodup_cons.1 h2).1
          have HP := xput_any hW hT hnm (hin' _ (by simp)) (.inl rfl)
          obtain ⟨a', c', e, hI⟩ := hr.open'
          simp only [Value.slice.injEq] at e
          obtain ⟨rfl, -, rfl⟩ := e
          obtain ⟨g, rfl, hcg⟩ := hI j (q[j] : Nat) (by rw [ints, List.getElem?_map, hx]; rfl)
          clear hdr hnm hW hI hx
          generalize q[j] = a at *
          have h3 : (j : Int) < (q.length : Int) := by omega
          have h4 : (0 : Int) ≤ (j : Int) := by omega
          go_wp2_with (first
            | (go_at_call 40; refine HP.mono ?_; rintro e w3 ⟨rfl, m3, b3⟩))
          go_roundw
          case rel => exact ⟨j + 1, by omega, by simp, hr.but b3 hltd, m3, fun i hi => b3.cell' (hc i hi) hXS, hB.trans b3⟩
          case measure =>
            simp [intOf]
            omega
        · obtain rfl : j = q.length := by omega
          rw [List.drop_length] at hW
          go_wp2_with fail
          go_roundw
          case rel => exact ⟨l + 1, by omega, by omega, by simp, hW, hc, hB⟩
          case measure =>
            simp [intOf]
            omega
    · have hov : l = 4 ∨ (1 ≤ l ∧ prt (l - 1) n ≠ 0) := by omega
      have hfin := hW.mono (R' := fun u i => i = rowN n u) (fun t i _ _ h => h.over hov)
      by_cases hl : l = 4
      · subst hl
        go_wp2_with fail
        go_end0
        exact ⟨rfl, hfin, hB⟩
      · have hne : prt (l - 1) n ≠ 0 := by omega
        have cz := hc (l - 1) (by omega)
        have hl' : (l : Int) < 4 := by omega
        have hl0 : (0 : Int) ≤ (l : Int) := by omega
        have hlm : (l : Int) - 1 = ((l - 1 : Nat) : Int) := by omega
        have hm0 : (0 : Int) ≤ ((l - 1 : Nat) : Int) := by omega
        have hm1 : ((l - 1 : Nat) : Int) < 4 := by omega
        have hne' : ((prt (l - 1) n : Nat) : Int) ≠ 0 := by omega
        have hnb : (((prt (l - 1) n : Nat) : Int) == 0) = false := by simpa using hne'
        go_wp2_with fail
        go_end0
        exact ⟨rfl, hfin, hB⟩
end
end Go.Proofs.Ytmjjghhlalaeiaa
