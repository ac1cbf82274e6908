/- Sound of the program's. -/
import Derived.Test.YtlnfabjgcecebaaGreatPqL
import Derived.Test.YtlnfabjgcecebaaGreatHSound
namespace Go.Proofs.YtlnfabjgcecebaaGreat.Pq
open Go Go.RowKit Go.Proofs.YtlnfabjgcecebaaGreat.Str Go.Proofs.YtlnfabjgcecebaaGreat.Rd
open Go.Proofs.YtlnfabjgcecebaaGreat.Hp (Step Disj HQ)

/-- How many of the ids below j wait. -/
def cntW (L : List Rw) (j : Nat) : Nat := ((List.range j).filter (fun i => decide ((rw L i).1 = 1))).length
theorem cntW_no {L : List Rw} {j : Nat} (h : (rw L j).1 ≠ 1) : cntW L (j + 1) = cntW L j := by
  unfold cntW
  rw [List.range_succ, List.filter_append, List.filter_cons_of_neg (by simpa using h)]
  simp
theorem cntW_yes {L : List Rw} {j : Nat} (h : (rw L j).1 = 1) : cntW L (j + 1) = cntW L j + 1 := by
  unfold cntW
  rw [List.range_succ, List.filter_append, List.filter_cons_of_pos (by simpa using h)]
  simp
theorem cntW_le (L : List Rw) (j : Nat) : cntW L j ≤ j := by
  unfold cntW
  have := List.length_filter_le (fun i => decide ((rw L i).1 = 1)) (List.range j)
  simpa using this
theorem cntW_all (σ : Qs) : cntW σ.L σ.L.length = (qL σ).length := by
  have n1 := qL_nd σ
  have n2 : ((List.range σ.L.length).filter (fun i => decide ((rw σ.L i).1 = 1))).Nodup := List.nodup_range.sublist List.filter_sublist
  have s1 : ∀ x ∈ (qL σ).map (·.1), x ∈ (List.range σ.L.length).filter (fun i => decide ((rw σ.L i).1 = 1)) := fun x hx => by
    obtain ⟨p, hp, rfl⟩ := List.mem_map.1 hx
    obtain ⟨h1, h2, -⟩ := qL_mem.1 hp
    rw [List.mem_filter]
    exact ⟨List.mem_range.2 h1, by simpa using h2⟩
  have s2 : ∀ x ∈ (List.range σ.L.length).filter (fun i => decide ((rw σ.L i).1 = 1)), x ∈ (qL σ).map (·.1) := fun x hx => by
    rw [List.mem_filter] at hx
    exact List.mem_map.2 ⟨(x, (rw σ.L x).2.2.1), qL_mem.2 ⟨List.mem_range.1 hx.1, by simpa using hx.2, rfl⟩, rfl⟩
  have l1 := List.Nodup.length_le_of_subset n1 s1
  have l2 := List.Nodup.length_le_of_subset n2 s2
  rw [List.length_map] at l1 l2
  unfold cntW
  omega
/-- Whoever waits has a pass that it may have. -/
theorem ent_self {K : Nat} {σ : Qs} (hF : Few K σ) (hK : K ≤ 1000) {j : Nat} (hj : j < σ.L.length) (h : (rw σ.L j).1 = 1) : entI (rw σ.L j).2.2.1 σ.now (strI (rw σ.L j).2.1) = (rw σ.L j).2.2.1 := by
  obtain ⟨n0, n1, -, -⟩ := hF.sml hK
  obtain ⟨A, g⟩ := hF
  obtain ⟨f0, f1⟩ := g.found (p := (j, (rw σ.L j).2.2.1)) (qL_mem.2 ⟨hj, h, rfl⟩)
  have hs := str_bd (rw σ.L j).2.1
  exact (ent_bd n0 n1 (by omega) (by omega)).2.2 f0 f1
theorem key_in {σ : Qs} {j : Nat} (hj : j < σ.L.length) (h : (rw σ.L j).1 = 1) : Hp.keyV (qL σ) (j : Int) = (rw σ.L j).2.2.1 ∧ Hp.hasB (qL σ) (j : Int) = true := by
  have hr := rwI_of (σ := σ) hj
  refine ⟨?_, ?_⟩
  · rw [keyV_qL (by rw [hr]; exact h), hr]
  · rw [hasB_qL, hr]
    simpa using h
section
set_option maxRecDepth 100000
variable {w w' : World} {B G H N : Nat} {TH TH' : List Nat} {σ : Qs} {q q' : List Hp.Th}
set_option maxHeartbeats 4000000 in
theorem sound_any (h : QM w B G H TH N σ (qL σ)) {K : Nat} (hF : Few K σ) (hK : K ≤ 1000) :
    Calls Tryz.prog 38 #[.pointer (some ⟨B, 0, none⟩)] w fun e w' => e = .returned (.bool true) ∧ Below w.heap.size w w' := by
  have M := made_any h
  have S := Go.Proofs.YtlnfabjgcecebaaGreat.Hp.sound_any h.h
  have c1 := h.c1
  have hN := h.n2
  have hlen := h.len
  obtain ⟨n0, n1, -, -⟩ := hF.sml hK
  have hAll := cntW_all σ
  rw [hlen] at hAll
  have hl2 := cntW_le σ.L N
  rw [hAll] at hl2
  have hCnt : Hid (cntW σ.L N = (qL σ).length) := hAll
  clear hAll
  obtain ⟨c, -, -, c0⟩ := h.c0
  go_enter Tryz.func38, Tryz.ntmps38
  go_wp2_with (first
    | (go_at_call 30; (with_reducible refine M.mono ?_); rintro e w1 ⟨rfl, hw⟩; subst w1)
    | (go_at_call 65; (with_reducible refine S.mono ?_); rintro e w2 ⟨rfl, b2⟩; have h2 := h.below b2; obtain ⟨c2, -, -, d0⟩ := h2.c0))
  have hB0 : Below w.heap.size w w2 := b2
  clear M S c1 c0 d0 b2 h2
  go_loopw [24, 3, 4, 5, 6, 7] (fun v f _ _ _ _ wr => ∃ j : Nat, j ≤ N ∧ v = .int .i64 j ∧ f = .int .i64 (cntW σ.L j : Nat) ∧ Below w.heap.size w wr) (fun v _ _ _ _ _ _ => 4096 - (intOf v).toNat)
  case atStart => exact ⟨0, by omega, rfl, rfl, hB0⟩
  case round =>
    clear hB0
    obtain ⟨j, hj, rfl, rfl, hB⟩ := hrel
    have hr := h.below hB
    have c1 := hr.c1
    obtain ⟨cc, -, -, c0⟩ := hr.c0
    by_cases hlt : j < N
    · have hlt' : (j : Int) < (N : Int) := by omega
      have hjl : j < σ.L.length := by rw [hlen]; exact hlt
      have y0 := hr.r0 hlt
      have hcl := cntW_le σ.L j
      by_cases h1 : (rw σ.L j).1 = 1
      · have Hc : Hid (cntW σ.L (j + 1) = cntW σ.L j + 1) := cntW_yes h1
        obtain ⟨ek, eb⟩ := key_in hjl h1
        have KY := Hp.key_any hr.h (j : Int)
        rw [ek, eb] at KY
        have es := ent_self hF hK hjl h1
        have hs := str_bd (rw σ.L j).2.1
        have AG : ∀ W, QM W B G H TH N σ (qL σ) → Calls Tryz.prog 67 #[.pointer (some ⟨G, j * 4, none⟩), .int .i64 σ.now] W fun e w' => e = .returned (.int .i64 (rw σ.L j).2.2.1) ∧ Hp.Drawn W w' := fun W hW => by
          have := again_any (hW.r1 hlt) (hW.r2 hlt) (now := σ.now) (by omega) (by omega) (by omega) (by omega)
          rw [es] at this
          exact this
        have C2 : ∀ W, QM W B G H TH N σ (qL σ) → W.cell? ⟨B, 2, none⟩ = some (.int .i64 σ.now) ∧ W.cell? ⟨G, j * 4 + 2, none⟩ = some (.int .i64 (rw σ.L j).2.2.1) := fun W hW => ⟨hW.c2, hW.r2 hlt⟩
        rw [h1] at y0
        clear es ek eb hs
        generalize (rw σ.L j).2.2.1 = ps at *
        have hne : (ps != ps) = false := by simp
        generalize cntW σ.L j = f at *
        generalize σ.now = now at *
        go_upto_region 10 with (first | (go_at_call 66; (with_reducible refine KY.mono ?_); rintro e w3 ⟨rfl, d3⟩; have h3 := hr.keep d3.but; obtain ⟨e2, e3⟩ := C2 _ h3; have hB3 := (Hp.But.of_below (S := []) hB).trans d3.but))
        go_quiet ((go_at_call 67; exact Calls.quiet_of (AG _ (h3.keep ((Hp.But.refl [] _).drewN _)))))
        have hB4 := hB3.drewN
        go_wp2_with fail
        go_roundw
        case rel => exact ⟨j + 1, by omega, by simp, by rw [Hc.out]; simp, (hB4 _).to_below⟩
        case measure =>
          simp [intOf]
          omega
      · have Hc : Hid (cntW σ.L (j + 1) = cntW σ.L j) := cntW_no h1
        have hne : ((rw σ.L j).1 != 1) = true := by simpa using h1
        generalize (rw σ.L j).1 = x at *
        generalize cntW σ.L j = f at *
        go_wp2_with fail
        go_roundw
        case rel => exact ⟨j + 1, by omega, by simp, by rw [Hc.out], hB⟩
        case measure =>
          simp [intOf]
          omega
    · obtain rfl : j = N := by omega
      have LN := Hp.lenq_any hr.h
      rw [hCnt.out]
      go_wp2_with (first | (go_at_call 68; (with_reducible refine LN.mono ?_); rintro e w3 ⟨rfl, hw⟩; subst w3))
      go_ret
      exact ⟨by simp, hB⟩
end
end Go.Proofs.YtlnfabjgcecebaaGreat.Pq
