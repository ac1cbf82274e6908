/- The step of ints: as many as are said, one by one. -/
import Derived.Test.YtdndpncbagjidaaStep
import Derived.Test.YtdndpncbagjidaaApp
namespace Go.Proofs.Ytdndpncbagjidaa
open Go.RowKit

theorem numG_eats {bs t : List UInt8} {n : Nat} (h : numG 0 0 bs = (0, n, t)) : t.length + 1 ≤ bs.length := by
  obtain ⟨e, hn⟩ := numG_back h
  rw [e, List.length_append, numL_nine hn]
  have := numF_pos 9 n
  omega
theorem numT_ok {most : Nat} {bs t : List UInt8} {n : Nat} (e : numT most bs = (0, n, t)) : numG 0 0 bs = (0, n, t) ∧ n ≤ most := by
  unfold numT at e
  simp only at e
  split at e
  · split at e
    · cases e
    · rename_i h
      rw [e] at h
      exact ⟨e, by simp only at h; omega⟩
  · rename_i h
    rw [e] at h
    exact absurd rfl h
theorem intT_eats {least most : Int} {bs : List UInt8} (h : (intT least most bs).1 = 0) : (intT least most bs).2.2.length + 1 ≤ bs.length := by
  unfold intT at h ⊢
  simp only at h ⊢
  by_cases h0 : (numG 0 0 bs).1 = 0
  · have e : numG 0 0 bs = (0, (numG 0 0 bs).2.1, (numG 0 0 bs).2.2) := Prod.ext h0 rfl
    have := numG_eats e
    rw [if_pos h0] at h ⊢
    split at h
    · cases h
    · rename_i hn
      rw [if_neg hn]
      exact this
  · rw [if_neg h0] at h
    exact absurd h h0

theorem But.of_grown {w w' : World} {row : Option Nat} (h : w.grownBy w' row) : But row.toList w w' :=
  ⟨h.os, h.tape, h.output, h.size, fun k hk hn => h.block k hk (fun e => hn (by rw [← e]; simp))⟩
theorem SR.grown {w w' : World} {B x : Nat} {bs : List UInt8} {row : Option Nat} (h : SR w B x bs) (hg : w.grownBy w' row) (hr : ∀ k, row = some k → B < k) : SR w' B x bs :=
  h.but (But.of_grown hg) (fun y hy => hr y (by simpa using hy))

/-- Ints ahead of what others tell. -/
def joinI (xs : List Int) (q : Nat × List Int × List UInt8) : Nat × List Int × List UInt8 := if q.1 = 0 then (0, xs ++ q.2.1, q.2.2) else (q.1, [], [])
theorem joinI_nil (least most : Int) (n : Nat) (bs : List UInt8) : joinI [] (intsG least most n bs) = intsG least most n bs := by
  unfold joinI
  split
  · rename_i h
    rw [← h]
    simp
  · rename_i h
    cases n with
    | zero => exact absurd rfl h
    | succ n =>
      unfold intsG at h ⊢
      simp only at h ⊢
      split
      · rename_i h1
        rw [if_pos h1] at h
        split
        · rename_i h2
          rw [if_pos h2] at h
          exact absurd rfl h
        · rfl
      · rfl
theorem joinI_ok {least most : Int} {n : Nat} {bs : List UInt8} {xs : List Int} (h : (intT least most bs).1 = 0) : joinI xs (intsG least most (n + 1) bs) = joinI (xs ++ [(intT least most bs).2.1]) (intsG least most n (intT least most bs).2.2) := by
  have e : intsG least most (n + 1) bs = if (intsG least most n (intT least most bs).2.2).1 = 0 then (0, (intT least most bs).2.1 :: (intsG least most n (intT least most bs).2.2).2.1, (intsG least most n (intT least most bs).2.2).2.2) else ((intsG least most n (intT least most bs).2.2).1, [], []) := by
    show (if (intT least most bs).1 = 0 then _ else _) = _
    rw [if_pos h]
  rw [e]
  unfold joinI
  by_cases h1 : (intsG least most n (intT least most bs).2.2).1 = 0
  · rw [if_pos h1, if_pos h1]
    simp
  · rw [if_neg h1, if_neg h1]
    simp [h1]
theorem joinI_no {least most : Int} {n : Nat} {bs : List UInt8} {xs : List Int} (h : (intT least most bs).1 ≠ 0) : joinI xs (intsG least most (n + 1) bs) = ((intT least most bs).1, [], []) := by
  have e : intsG least most (n + 1) bs = ((intT least most bs).1, [], []) := by
    show (if (intT least most bs).1 = 0 then _ else _) = _
    rw [if_neg h]
  rw [e]
  simp [joinI, h]
theorem joinI_end (least most : Int) (bs : List UInt8) (xs : List Int) : joinI xs (intsG least most 0 bs) = (0, xs, bs) := by simp [joinI, intsG]

section
variable {B : Nat} {bs : List UInt8} {w : World} {b0 b1 b2 b3 : Nat}

set_option maxHeartbeats 2000000 in
theorem step59 (h : SR w B 0 bs) (hbs : bs.length ≤ 90000) (count least most : Int) (hcn : -9223372036854775808 ≤ count ∧ count ≤ 9223372036854775807) (h0 : w.cell? ⟨b0, 0, none⟩ = some (.pointer (some ⟨B, 0, none⟩))) (h1 : w.cell? ⟨b1, 0, none⟩ = some (.int .i64 count)) (h2 : w.cell? ⟨b2, 0, none⟩ = some (.int .i64 least)) (h3 : w.cell? ⟨b3, 0, none⟩ = some (.int .i64 most)) (n0 : b0 ≠ B) (n2 : b2 ≠ B) (n3 : b3 ≠ B) :
    Calls Try.prog 59 #[.pointer (some ⟨b0, 0, none⟩), .pointer (some ⟨b1, 0, none⟩), .pointer (some ⟨b2, 0, none⟩), .pointer (some ⟨b3, 0, none⟩)] w fun e w' => ToldV B w w' e (fun v w' => RowI w' w.heap.size v (intsT count least most bs).2.1) (intsT count least most bs).1 (intsT count least most bs).2.2 := by
  have hB := h.lt
  have hc := count_any B count bs w h hcn
  by_cases hr : (numT (upN count) bs).1 = 0
  · have e : numT (upN count) bs = (0, (numT (upN count) bs).2.1, (numT (upN count) bs).2.2) := Prod.ext hr rfl
    generalize (numT (upN count) bs).2.1 = n at e
    generalize (numT (upN count) bs).2.2 = t at e
    obtain ⟨hq, hnm⟩ := numT_ok e
    have hnlt : n ≤ 9223372036854775807 := by unfold upN at hnm; omega
    have hte := numG_eats hq
    rw [e] at hc
    simp only at hc
    replace hc : Calls Try.prog 55 #[.pointer (some ⟨B, 0, none⟩), .int .i64 count] w fun e w' => e = .returned (.int .u64 (n : Int)) ∧ But [B] w w' ∧ SR w' B 0 t := hc.mono (fun e w' ⟨hb1, hh⟩ => by
      rcases hh with ⟨_, he, hs⟩ | ⟨h, _⟩
      · exact ⟨he, hb1, hs⟩
      · exact absurd rfl h)
    have e2 : intsT count least most bs = intsG least most n t := by simp [intsT, e]
    rw [e2]
    clear e2 e hr hq hnm
    obtain ⟨R, hR⟩ : ∃ R, intsG least most n t = R := ⟨_, rfl⟩
    have HJ : Hid (joinI [] (intsG least most n t) = R) := Hid.mk (by rw [joinI_nil, hR])
    rw [hR]
    clear hR
    go_enter Try.func59, Try.ntmps59
    go_wp2_with (go_at_call 55; refine hc.mono ?_; rintro e w' ⟨rfl, hb1, hs1⟩)
    go_loopw [5, 9] (fun v q wr => ∃ (j : Nat) (xs : List Int) (rest : List UInt8), j ≤ n ∧ q = .int .u64 (j : Int) ∧ xs.length = j ∧ xs.length + rest.length ≤ t.length ∧ RowI wr w.heap.size v xs ∧ Hid (joinI xs (intsG least most (n - j) rest) = R) ∧ But [B] w wr ∧ SR wr B 0 rest) (fun _ q _ => n - (intOf q).toNat)
    case atStart => exact ⟨0, [], t, Nat.zero_le _, rfl, rfl, by simp, World.ownsRow_nil _ _ 3 1, HJ, hb1, hs1⟩
    case round =>
      obtain ⟨j, xs, rest, hj, rfl, hxl, hle, hrow, HQ, hb, hs⟩ := hrel
      by_cases hlt : j < n
      · have k1 : (j : Int) < (n : Int) := by omega
        have c0 := hb.cell' h0 (by simpa using n0)
        have c2 := hb.cell' h2 (by simpa using n2)
        have c3 := hb.cell' h3 (by simpa using n3)
        have hci := intIn_any B least most rest _ hs
        obtain ⟨m, hm⟩ : ∃ m, n - j = m + 1 := ⟨n - j - 1, by omega⟩
        have hq := HQ.out
        rw [hm] at hq
        by_cases hx : (intT least most rest).1 = 0
        · rw [joinI_ok hx] at hq
          have hea := intT_eats hx
          replace hci : Calls Try.prog 51 #[.pointer (some ⟨B, 0, none⟩), .int .i64 least, .int .i64 most] wr fun e w' => e = .returned (.int .i64 (intT least most rest).2.1) ∧ But [B] wr w' ∧ SR w' B 0 (intT least most rest).2.2 := hci.mono (fun e w' ⟨hb1, hh⟩ => by
            rcases hh with ⟨_, he, hs⟩ | ⟨h, _⟩
            · exact ⟨he, hb1, hs⟩
            · exact absurd hx h)
          generalize (intT least most rest).2.1 = x at hci hq
          generalize (intT least most rest).2.2 = r2 at hci hq hea
          have HQ2 := Hid.mk hq
          have Hm := Hid.mk hm
          have Hx := Hid.mk hxl
          clear hq hm hx HQ HJ hxl
          have hsz := hb.size
          go_wp2_with (first
            | (go_at_call 51; refine hci.mono ?_; rintro e w2 ⟨rfl, hb2, hs2⟩; have hr2 : RowI w2 w.heap.size _ xs := hrow.but hb2 (by simpa using hB); have hz2 := hb2.size)
            | (at_builtin; refine wpList_app rfl _ _ rfl w.heap.size _ _ xs rfl (World.ownsRow.alloc hr2 _) _ _ _ [x] rfl rfl (reads_one _ _) (by have := Hx.out; omega) (by simp; omega) ?_; intro v3 w3 ho3 hg3; have hb3 : But [B] w w3 := (((hb.trans hb2).alloc _).grown hg3 (fun k e => (World.ownsRow.lt hr2 k e).1))))
          go_roundw
          case rel => exact ⟨j + 1, xs ++ [x], r2, by omega, by simp, by simp [Hx.out], by simp; omega, by unfold RowI; rw [List.length_append]; exact ho3, by rw [show n - (j + 1) = m by have := Hm.out; omega]; exact HQ2, hb3, (hs2.keep ((But.refl [] w2).alloc _)).grown hg3 (fun k e => Nat.lt_of_lt_of_le hB (World.ownsRow.lt hr2 k e).1)⟩
          case measure =>
            simp [intOf]
            omega
        · rw [joinI_no hx] at hq
          subst hq
          replace hci : Calls Try.prog 51 #[.pointer (some ⟨B, 0, none⟩), .int .i64 least, .int .i64 most] wr fun e w' => e = .panicked [flt (intT least most rest).1] ∧ But [B] wr w' ∧ ∃ t', SR w' B 0 t' := hci.mono (fun e w' ⟨hb1, hh⟩ => by
            rcases hh with ⟨h, _⟩ | ⟨_, he, hs⟩
            · exact absurd h hx
            · exact ⟨he, hb1, hs⟩)
          clear HQ HJ hm
          go_wp2_with (first
            | (go_at_call 51; refine hci.mono ?_; rintro e w2 ⟨rfl, hb2, hs2⟩))
          exact ⟨rfl, hb.trans hb2, .inr ⟨hx, rfl, hs2⟩⟩
      · obtain rfl : j = n := by omega
        have hq := HQ.out
        rw [Nat.sub_self, joinI_end] at hq
        subst hq
        go_wp2_with fail
        go_ret
        exact ⟨hb, .inl ⟨rfl, _, rfl, hrow, hs⟩⟩
  · have e : intsT count least most bs = ((numT (upN count) bs).1, [], []) := by simp [intsT, hr]
    rw [e]
    clear e
    generalize (numT (upN count) bs).1 = x at *
    replace hc : Calls Try.prog 55 #[.pointer (some ⟨B, 0, none⟩), .int .i64 count] w fun e w' => e = .panicked [flt x] ∧ But [B] w w' ∧ ∃ t', SR w' B 0 t' := hc.mono (fun e w' ⟨hb1, hh⟩ => by
      rcases hh with ⟨h, _⟩ | ⟨_, he, hs⟩
      · exact absurd h hr
      · exact ⟨he, hb1, hs⟩)
    go_enter Try.func59, Try.ntmps59
    go_wp2_with (go_at_call 55; refine hc.mono ?_; rintro e w' ⟨rfl, hb1, hs1⟩)
    exact ⟨rfl, hb1, .inr ⟨hr, rfl, hs1⟩⟩
end

end Go.Proofs.Ytdndpncbagjidaa
