/- The steps that are given to the face: of a number, an int, a text. -/
import Derived.Test.YtdndpncbagjidaaFace
import Derived.Deep.RegionHeld3
import Derived.Deep.RegionWith
namespace Go.Proofs.Ytdndpncbagjidaa
open Go.RowKit

section
variable {B : Nat} {bs : List UInt8} {w : World} {b0 b1 b2 b3 : Nat}

set_option maxHeartbeats 400000 in
theorem step47 (h : SR w B 0 bs) (most : Nat) (h0 : w.cell? ⟨b0, 0, none⟩ = some (.pointer (some ⟨B, 0, none⟩))) (h1 : w.cell? ⟨b1, 0, none⟩ = some (.int .u64 (most : Int))) :
    Calls Try.prog 47 #[.pointer (some ⟨b0, 0, none⟩), .pointer (some ⟨b1, 0, none⟩)] w fun e w' => ToldV B w w' e (fun v _ => v = .int .u64 ((numT most bs).2.1 : Int)) (numT most bs).1 (numT most bs).2.2 := by
  have hc := numTo_any B most bs w h
  generalize numT most bs = r at hc
  go_enter Try.func47, Try.ntmps47
  go_wp2_with (go_at_call 48; refine hc.mono ?_; rintro e w' ⟨hb1, ⟨hx, rfl, hs1⟩ | ⟨hx, rfl, hs1⟩⟩)
  · go_ret
    exact ⟨hb1, .inl ⟨hx, _, rfl, rfl, hs1⟩⟩
  · exact ⟨rfl, hb1, .inr ⟨hx, rfl, hs1⟩⟩

set_option maxHeartbeats 400000 in
theorem step50 (h : SR w B 0 bs) (least most : Int) (h0 : w.cell? ⟨b0, 0, none⟩ = some (.pointer (some ⟨B, 0, none⟩))) (h1 : w.cell? ⟨b1, 0, none⟩ = some (.int .i64 least)) (h2 : w.cell? ⟨b2, 0, none⟩ = some (.int .i64 most)) :
    Calls Try.prog 50 #[.pointer (some ⟨b0, 0, none⟩), .pointer (some ⟨b1, 0, none⟩), .pointer (some ⟨b2, 0, none⟩)] w fun e w' => ToldV B w w' e (fun v _ => v = .int .i64 (intT least most bs).2.1) (intT least most bs).1 (intT least most bs).2.2 := by
  have hc := intIn_any B least most bs w h
  generalize intT least most bs = r at hc
  go_enter Try.func50, Try.ntmps50
  go_wp2_with (go_at_call 51; refine hc.mono ?_; rintro e w' ⟨hb1, ⟨hx, rfl, hs1⟩ | ⟨hx, rfl, hs1⟩⟩)
  · go_ret
    exact ⟨hb1, .inl ⟨hx, _, rfl, rfl, hs1⟩⟩
  · exact ⟨rfl, hb1, .inr ⟨hx, rfl, hs1⟩⟩

/-- Bytes as a text. -/
theorem conv_byts {w : World} {B c l : Nat} {a : Option Addr} {bs : List UInt8} (h : Byts w B a c bs) (hl : bs.length = l) : (convert 22 9 (.slice a l c)).run Try.prog w = .ok (.string ⟨bs.toArray⟩) w := by
  subst hl
  rcases h with ⟨rfl, rfl⟩ | ⟨G, o, rfl, hG, hl, hm, hc⟩
  · cases a with
    | none => exact run_convert_bytes_nil w 22 5 Try.underlying22 Try.underlying5 0 0 9 Try.underlying9
    | some ad => exact run_convert_bytes_back w 22 9 5 ad 0 [] Try.underlying22 Try.underlying5 Try.underlying9 (fun j hj => by simp at hj)
  · refine run_convert_bytes_back w 22 9 5 ⟨G, o, none⟩ c bs Try.underlying22 Try.underlying5 Try.underlying9 (fun j hj => ?_)
    rw [WideShapes.add_plain]
    exact hc j _ (List.getElem?_eq_getElem hj)

set_option maxHeartbeats 1000000 in
theorem step53 (h : SR w B 0 bs) (most : Int) (hm : -9223372036854775808 ≤ most ∧ most ≤ 9223372036854775807) (h0 : w.cell? ⟨b0, 0, none⟩ = some (.pointer (some ⟨B, 0, none⟩))) (h1 : w.cell? ⟨b1, 0, none⟩ = some (.int .i64 most)) (n0 : b0 ≠ B) (n1 : b1 ≠ B) :
    Calls Try.prog 53 #[.pointer (some ⟨b0, 0, none⟩), .pointer (some ⟨b1, 0, none⟩)] w fun e w' => ToldV B w w' e (fun v _ => v = .string ⟨(textT most bs).2.1.toArray⟩) (textT most bs).1 (textT most bs).2.2 := by
  have hs0 : SR w.drew B 0 bs := h.keep (But.refl [] w).drew
  have hc := count_any B most bs w.drew hs0 hm
  by_cases hr : (numT (upN most) bs).1 = 0
  · have e : numT (upN most) bs = (0, (numT (upN most) bs).2.1, (numT (upN most) bs).2.2) := Prod.ext hr rfl
    generalize (numT (upN most) bs).2.1 = n at e
    generalize (numT (upN most) bs).2.2 = t at e
    have hn : n < 2 ^ 64 := by
      have hq : numG 0 0 bs = (0, n, t) := by
        unfold numT at e
        simp only at e
        split at e
        · split at e
          · cases e
          · exact e
        · exact e
      exact (numG_back hq).2
    rw [e] at hc
    simp only at hc
    replace hc : Calls Try.prog 55 #[.pointer (some ⟨B, 0, none⟩), .int .i64 most] w.drew fun e w' => e = .returned (.int .u64 (n : Int)) ∧ But [B] w.drew w' ∧ SR w' B 0 t := hc.mono (fun e w' ⟨hb1, hh⟩ => by
      rcases hh with ⟨_, he, hs⟩ | ⟨h, _⟩
      · exact ⟨he, hb1, hs⟩
      · exact absurd rfl h)
    have hSd : w.drew.cell? ⟨b0, 0, none⟩ = some (.pointer (some ⟨B, 0, none⟩)) ∧ w.drew.cell? ⟨b1, 0, none⟩ = some (.int .i64 most) := ⟨h0, h1⟩
    by_cases hl : t.length < n
    · have e2 : textT most bs = (9, [], []) := by simp [textT, e, hl]
      rw [e2]
      clear e2 e hr
      have hcut : ∀ w', SR w' B 0 t → _ := fun w' hs => cut_short B n t w' hs hl hn
      go_enter Try.func53, Try.ntmps53
      go_wp2_with fail
      refine wp_region_held_drew (S := (fun w' => w'.cell? ⟨b0, 0, none⟩ = some (.pointer (some ⟨B, 0, none⟩)) ∧ w'.cell? ⟨b1, 0, none⟩ = some (.int .i64 most))) (by kernel_rfl) hSd (fun hHeld => ?_)
      refine wpAnyH_take (i := 0) (oi := { dst := some 3, op := Op.load 35 (Operand.tmp 0), type := 35, pos := "source.go:37", after := #[], guard := none }) (v := ?_) rfl (by kernel_rfl) (by kernel_rfl) (by kernel_rfl) (fun _ _ _ h => h) (Or.inl ⟨by rfl, ?_⟩) (by assumption) ?_
      rotate_left
      · (intro w hSw; go_simp; all_goals with_reducible rfl)
      try simp only [Act.put, List.setIfInBounds_toArray, List.set_cons_zero, List.set_cons_succ]
      refine wpAnyH_take (i := 1) (oi := { dst := some 4, op := Op.load 35 (Operand.tmp 0), type := 35, pos := "source.go:37", after := #[], guard := none }) (v := ?_) rfl (by kernel_rfl) (by kernel_rfl) (by kernel_rfl) (fun _ _ _ h => h) (Or.inl ⟨by rfl, ?_⟩) (by assumption) ?_
      rotate_left
      · (intro w hSw; go_simp; all_goals with_reducible rfl)
      try simp only [Act.put, List.setIfInBounds_toArray, List.set_cons_zero, List.set_cons_succ]
      refine wpAnyH_take (i := 2) (oi := { dst := some 5, op := Op.load 3 (Operand.tmp 1), type := 3, pos := "source.go:37", after := #[], guard := none }) (v := ?_) rfl (by kernel_rfl) (by kernel_rfl) (by kernel_rfl) (fun _ _ _ h => h) (Or.inl ⟨by rfl, ?_⟩) (by assumption) ?_
      rotate_left
      · (intro w hSw; go_simp; all_goals with_reducible rfl)
      try simp only [Act.put, List.setIfInBounds_toArray, List.set_cons_zero, List.set_cons_succ]
      refine wpAnyH_ready (rs := [3]) (by kernel_rfl) (by simp) ?_
      refine AllReadyH.cons rfl (fun K hK => ?_) AllReadyH.nil
      go_simp
      go_at_call 55
      refine hc.mono ?_
      rintro e w' ⟨rfl, hb1, hs1⟩
      refine hK.out _ _ ⟨hb1.cell' hSd.1 (by simpa using n0), hb1.cell' hSd.2 (by simpa using n1)⟩ (fun hHeld => ?_)
      clear hK K
      try simp only [Act.put, List.setIfInBounds_toArray, List.set_cons_zero, List.set_cons_succ]
      refine wpAnyH_ready (rs := [4]) (by kernel_rfl) (by simp) ?_
      refine AllReadyH.cons rfl (fun K hK => ?_) AllReadyH.nil
      go_simp
      go_at_call 54
      refine (hcut _ hs1).mono ?_
      rintro e w'' ⟨rfl, rfl⟩
      exact ⟨rfl, (But.refl _ w).drew.trans hb1, .inr ⟨by simp, rfl, t, hs1⟩⟩
    · have e2 : textT most bs = (0, t.take n, t.drop n) := by simp [textT, e, hl]
      rw [e2]
      clear e2 e hr
      have hcut : ∀ w', SR w' B 0 t → _ := fun w' hs => cut_ok B n t w' hs (by omega)
      go_enter Try.func53, Try.ntmps53
      go_wp2_with fail
      refine wp_region_held_drew (S := (fun w' => w'.cell? ⟨b0, 0, none⟩ = some (.pointer (some ⟨B, 0, none⟩)) ∧ w'.cell? ⟨b1, 0, none⟩ = some (.int .i64 most))) (by kernel_rfl) hSd (fun hHeld => ?_)
      refine wpAnyH_take (i := 0) (oi := { dst := some 3, op := Op.load 35 (Operand.tmp 0), type := 35, pos := "source.go:37", after := #[], guard := none }) (v := ?_) rfl (by kernel_rfl) (by kernel_rfl) (by kernel_rfl) (fun _ _ _ h => h) (Or.inl ⟨by rfl, ?_⟩) (by assumption) ?_
      rotate_left
      · (intro w hSw; go_simp; all_goals with_reducible rfl)
      try simp only [Act.put, List.setIfInBounds_toArray, List.set_cons_zero, List.set_cons_succ]
      refine wpAnyH_take (i := 1) (oi := { dst := some 4, op := Op.load 35 (Operand.tmp 0), type := 35, pos := "source.go:37", after := #[], guard := none }) (v := ?_) rfl (by kernel_rfl) (by kernel_rfl) (by kernel_rfl) (fun _ _ _ h => h) (Or.inl ⟨by rfl, ?_⟩) (by assumption) ?_
      rotate_left
      · (intro w hSw; go_simp; all_goals with_reducible rfl)
      try simp only [Act.put, List.setIfInBounds_toArray, List.set_cons_zero, List.set_cons_succ]
      refine wpAnyH_take (i := 2) (oi := { dst := some 5, op := Op.load 3 (Operand.tmp 1), type := 3, pos := "source.go:37", after := #[], guard := none }) (v := ?_) rfl (by kernel_rfl) (by kernel_rfl) (by kernel_rfl) (fun _ _ _ h => h) (Or.inl ⟨by rfl, ?_⟩) (by assumption) ?_
      rotate_left
      · (intro w hSw; go_simp; all_goals with_reducible rfl)
      try simp only [Act.put, List.setIfInBounds_toArray, List.set_cons_zero, List.set_cons_succ]
      refine wpAnyH_ready (rs := [3]) (by kernel_rfl) (by simp) ?_
      refine AllReadyH.cons rfl (fun K hK => ?_) AllReadyH.nil
      go_simp
      go_at_call 55
      refine hc.mono ?_
      rintro e w' ⟨rfl, hb1, hs1⟩
      refine hK.out _ _ ⟨hb1.cell' hSd.1 (by simpa using n0), hb1.cell' hSd.2 (by simpa using n1)⟩ (fun hHeld => ?_)
      clear hK K
      try simp only [Act.put, List.setIfInBounds_toArray, List.set_cons_zero, List.set_cons_succ]
      refine wpAnyH_ready (rs := [4]) (by kernel_rfl) (by simp) ?_
      refine AllReadyH.cons rfl (fun K hK => ?_) AllReadyH.nil
      go_simp
      go_at_call 54
      refine (hcut _ hs1).mono ?_
      rintro e w'' ⟨a, c, rfl, hb2, hs2, hy⟩
      have hv := conv_byts hy (l := n) (by rw [List.length_take]; omega)
      refine hK.out _ _ ⟨hb2.cell' hHeld.1 (by simpa using n0), hb2.cell' hHeld.2 (by simpa using n1)⟩ (fun hHeld => ?_)
      clear hK K
      try simp only [Act.put, List.setIfInBounds_toArray, List.set_cons_zero, List.set_cons_succ]
      refine wpAnyH_ready (rs := [5]) (by kernel_rfl) (by simp) ?_
      refine AllReadyH.cons rfl (fun K hK => ?_) AllReadyH.nil
      go_simp
      refine hK.out _ _ hHeld (fun hHeld => ?_)
      clear hK K
      try simp only [Act.put, List.setIfInBounds_toArray, List.set_cons_zero, List.set_cons_succ]
      refine wpAnyH_ready (rs := [6]) (by kernel_rfl) (by simp) ?_
      refine AllReadyH.cons rfl (fun K hK => ?_) AllReadyH.nil
      go_simp
      refine hK.out _ _ hHeld (fun hHeld => ?_)
      clear hK K
      try simp only [Act.put, List.setIfInBounds_toArray, List.set_cons_zero, List.set_cons_succ]
      refine wpAnyH_done (by kernel_rfl) ?_ _
      go_wp2_with fail
      go_ret
      exact ⟨((But.refl _ w).drew.trans hb1).trans hb2, .inl ⟨rfl, _, rfl, rfl, hs2⟩⟩
  · have e : textT most bs = ((numT (upN most) bs).1, [], []) := by simp [textT, hr]
    rw [e]
    clear e
    generalize (numT (upN most) bs).1 = x at *
    replace hc : Calls Try.prog 55 #[.pointer (some ⟨B, 0, none⟩), .int .i64 most] w.drew fun e w' => e = .panicked [flt x] ∧ But [B] w.drew w' ∧ ∃ t', SR w' B 0 t' := hc.mono (fun e w' ⟨hb1, hh⟩ => by
      rcases hh with ⟨h, _⟩ | ⟨_, he, hs⟩
      · exact absurd h hr
      · exact ⟨he, hb1, hs⟩)
    have hSd : w.drew.cell? ⟨b0, 0, none⟩ = some (.pointer (some ⟨B, 0, none⟩)) ∧ w.drew.cell? ⟨b1, 0, none⟩ = some (.int .i64 most) := ⟨h0, h1⟩
    go_enter Try.func53, Try.ntmps53
    go_wp2_with fail
    refine wp_region_held_drew (S := (fun w' => w'.cell? ⟨b0, 0, none⟩ = some (.pointer (some ⟨B, 0, none⟩)) ∧ w'.cell? ⟨b1, 0, none⟩ = some (.int .i64 most))) (by kernel_rfl) hSd (fun hHeld => ?_)
    refine wpAnyH_take (i := 0) (oi := { dst := some 3, op := Op.load 35 (Operand.tmp 0), type := 35, pos := "source.go:37", after := #[], guard := none }) (v := ?_) rfl (by kernel_rfl) (by kernel_rfl) (by kernel_rfl) (fun _ _ _ h => h) (Or.inl ⟨by rfl, ?_⟩) (by assumption) ?_
    rotate_left
    · (intro w hSw; go_simp; all_goals with_reducible rfl)
    try simp only [Act.put, List.setIfInBounds_toArray, List.set_cons_zero, List.set_cons_succ]
    refine wpAnyH_take (i := 1) (oi := { dst := some 4, op := Op.load 35 (Operand.tmp 0), type := 35, pos := "source.go:37", after := #[], guard := none }) (v := ?_) rfl (by kernel_rfl) (by kernel_rfl) (by kernel_rfl) (fun _ _ _ h => h) (Or.inl ⟨by rfl, ?_⟩) (by assumption) ?_
    rotate_left
    · (intro w hSw; go_simp; all_goals with_reducible rfl)
    try simp only [Act.put, List.setIfInBounds_toArray, List.set_cons_zero, List.set_cons_succ]
    refine wpAnyH_take (i := 2) (oi := { dst := some 5, op := Op.load 3 (Operand.tmp 1), type := 3, pos := "source.go:37", after := #[], guard := none }) (v := ?_) rfl (by kernel_rfl) (by kernel_rfl) (by kernel_rfl) (fun _ _ _ h => h) (Or.inl ⟨by rfl, ?_⟩) (by assumption) ?_
    rotate_left
    · (intro w hSw; go_simp; all_goals with_reducible rfl)
    try simp only [Act.put, List.setIfInBounds_toArray, List.set_cons_zero, List.set_cons_succ]
    refine wpAnyH_ready (rs := [3]) (by kernel_rfl) (by simp) ?_
    refine AllReadyH.cons rfl (fun K hK => ?_) AllReadyH.nil
    go_simp
    go_at_call 55
    refine hc.mono ?_
    rintro e w' ⟨rfl, hb1, hs1⟩
    exact ⟨rfl, (But.refl _ w).drew.trans hb1, .inr ⟨hr, rfl, hs1⟩⟩
end

end Go.Proofs.Ytdndpncbagjidaa
