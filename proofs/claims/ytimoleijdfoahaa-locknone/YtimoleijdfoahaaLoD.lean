/- The document's Cast, Drop and New. -/
import Derived.Test.YtimoleijdfoahaaLoS
import Derived.Test.YtimoleijdfoahaaLkNew
namespace Go.Proofs.Ytimoleijdfoahaa.Lo
open Go Go.RowKit Go.Proofs.Ytimoleijdfoahaa.Bs
open Go.Proofs.Ytimoleijdfoahaa.Lk (inN inN_of inN_out wI lsI wI_nat whI whI_none whI_some whI_cases ints ints_iv ints_len iv)
set_option linter.unusedSimpArgs false

section
variable {σ : St} {n T : Nat}
/-- All Signals of c. -/
def castA (c : Nat) (σ : St) : List Int × St := castK c (S σ c).length σ
theorem S_want {o t c : Nat} (ho : o < σ.own.length) (hl : σ.own.length + σ.own.length = σ.ls.length) : S (wantS σ o t) c = S σ c := by
  unfold wantS
  split
  · unfold S
    rw [List.length_set]
  · unfold S
    dsimp only
    rw [getD_set (by omega), if_neg (by omega)]
theorem S_sg (h : Ok n T σ) {c t : Nat} {r : List Nat} (hc : c < n) (hq : S σ c = t :: r) : S (sgS σ c) c = r := by
  have ht : t ∈ S σ c := by rw [hq]; simp
  obtain ⟨a1, a2⟩ := h.again c hc t ht
  have h' := h.popC hc
  have e : sgS σ c = wantS (popC σ c) (agN σ t) t := by unfold sgS; rw [hq]
  rw [e, S_want (by rw [h'.ol]; exact a1) (by rw [h'.ol, h'.ls.len])]
  have hol := h.ol
  have hS : S (popC σ c) c = (S σ c).tail := by
    unfold popC
    rw [S_set h (by omega) h.ol, hol, if_pos rfl]
  rw [hS, hq]
  rfl
theorem castA_nil {c : Nat} (hq : S σ c = []) : castA c σ = ([], σ) := by unfold castA; rw [hq]; rfl
theorem castA_cons (h : Ok n T σ) {c t : Nat} {r : List Nat} (hc : c < n) (hq : S σ c = t :: r) : castA c σ = ((if sgV σ c = -1 then (castA c (sgS σ c)).1 else sgV σ c :: (castA c (sgS σ c)).1), (castA c (sgS σ c)).2) := by
  have e := S_sg h hc hq
  unfold castA
  rw [e, hq]
  rfl
end
/-- How many sleep for condition c, as memory has it. -/
def slpLen (w : World) (M c : Nat) : Nat :=
  match w.cell? ⟨M, 3, none⟩ with
  | some (.slice (some a) _ _) => match w.cell? ⟨a.block, c, none⟩ with
    | some (.slice _ k _) => k
    | _ => 0
  | _ => 0
section
variable {w w' w3 : World} {M n T : Nat} {R R' : List Nat} {σ : St}
theorem RQ.slpLen (h : RQ w M R n T σ) {c : Nat} (hc : c < n) : slpLen w M c = (S σ c).length := by
  obtain ⟨hok, ob, wb, sb, ab, vw, vs, h⟩ := h
  obtain ⟨cl, a2⟩ := h.c3
  obtain ⟨v, a3, hv⟩ := h.sc hc
  obtain ⟨sa, sc, rfl, -⟩ := hv.rd
  unfold Lo.slpLen
  rw [a2]
  dsimp only
  rw [a3, ints_len]
theorem RQ.out {S' : List Nat} (h : RQ w M R n T σ) (hb : But S' w w') (hS : Disj R S') : RQ w' M R n T σ := by
  obtain ⟨hok, ob, wb, sb, ab, vw, vs, h⟩ := h
  exact ⟨hok, ob, wb, sb, ab, vw, vs, h.out hb hS⟩
theorem RQ.keep (h : RQ w M R n T σ) (hb : But [] w w') : RQ w' M R n T σ := h.out hb (by simp [Disj])
theorem RQ.lt (h : RQ w M R n T σ) : ∀ x ∈ R, x < w.heap.size := by
  obtain ⟨hok, ob, wb, sb, ab, vw, vs, h⟩ := h
  exact h.lt
theorem RQ.mem (h : RQ w M R n T σ) : M ∈ R := by
  obtain ⟨hok, ob, wb, sb, ab, vw, vs, h⟩ := h
  exact h.fr M (by simp)
theorem RQ.ok (h : RQ w M R n T σ) : Ok n T σ := h.1
/-- An append to a row that is none of theirs. -/
theorem RQ.app (h : RQ w M R n T σ) {o : Obj} {v : Value} (hg : (w.alloc o).grownBy w3 v.ownBlock) (hv : ∀ k, v.ownBlock = some k → k ∉ R) : RQ w3 M R n T σ := by
  refine (h.keep ((But.refl [] w).alloc o)).out (S' := v.ownBlock.toList) ⟨hg.os, hg.tape, hg.output, hg.size, fun k hk hs => hg.block k hk (fun e => hs (by rw [← e]; simp))⟩ (fun x hx hy => ?_)
  exact hv x (by simpa using hy) hx
theorem Step.app {W0 : World} (h : Step R W0 R' w) {o : Obj} {v : Value} (hg : (w.alloc o).grownBy w3 v.ownBlock) (hv : ∀ k, v.ownBlock = some k → W0.heap.size ≤ k) : Step R W0 R' w3 := ⟨(h.but.alloc o).grown hg hv, h.new⟩
theorem told_on {lo : Nat} {v : Value} {L : List Int} (hr : RowI w lo v L) (hv : ∀ k, v.ownBlock = some k → k ∉ R) (s : Step R w R' w') : RowI w' lo v L ∧ ∀ k, v.ownBlock = some k → k ∉ R' := by
  refine ⟨ownsRow_put hr (fun k e => s.but.block k (hr.low k e).2 (hv k e)), fun k e hk => ?_⟩
  rcases s.new k hk with h | h
  · exact hv k e h
  · have := (hr.low k e).2
    omega
set_option maxRecDepth 100000
set_option maxHeartbeats 4000000 in
theorem cast_any (hQ : RQ w M R n T σ) (c : Int) :
    Calls Try.prog 31 #[.pointer (some ⟨M, 0, none⟩), .int .i64 c] w fun e w' => ∃ v, e = .returned (.tuple #[v, .int .i64 (sigE σ c)]) ∧ RowI w' w.heap.size v (castL σ c) ∧ ∃ R', RQ w' M R' n T (castS σ c) ∧ Step R w R' w' ∧ ∀ k, v.ownBlock = some k → k ∉ R' := by
  obtain ⟨hok, ob, wb, sb, ab, vw, vs, h⟩ := id hQ
  have A := object_any h c
  have R0 : RowI w w.heap.size (.slice none 0 0) [] := ⟨by simp, .inl ⟨rfl, rfl⟩⟩
  have V0 : ∀ k, (Value.slice none 0 0).ownBlock = some k → k ∉ R := fun k e => by cases e
  unfold sigE castL castS
  cases hC : inO σ c
  · rw [hC] at A
    simp only [Bool.false_eq_true, if_false]
    go_enter Try.func31, Try.ntmps31
    go_wp2_with (first | (go_at_call 56; (with_reducible refine A.mono ?_); rintro e w1 ⟨rfl, hw⟩; subst w1))
    go_ret2
    exact ⟨_, rfl, R0, R, hQ, Step.refl _ _, V0⟩
  rw [hC] at A
  simp only [if_true]
  obtain ⟨cc, rfl, hcc⟩ := inO_out hok hC
  rw [Int.toNat_natCast]
  have hc' : (cc : Int) < (n : Int) := by omega
  obtain ⟨CA, hCA⟩ : ∃ CA, Hid (castK cc (S σ cc).length σ = CA) := ⟨_, rfl⟩
  rw [hCA.out]
  have hC0 : castA cc σ = CA := hCA.out
  have hl0 := hok.slen hcc
  clear h hCA
  go_enter Try.func31, Try.ntmps31
  go_wp2_with (first | (go_at_call 56; (with_reducible refine A.mono ?_); rintro e w1 ⟨rfl, hw⟩; subst w1))
  go_loopw [6, 7, 8] (fun v _ _ wr => ∃ (R1 : List Nat) (τ : St) (L : List Int), RowI wr w.heap.size v L ∧ (∀ k, v.ownBlock = some k → k ∉ R1) ∧ RQ wr M R1 n T τ ∧ Step R w R1 wr ∧ CA = (L ++ (castA cc τ).1, (castA cc τ).2) ∧ L.length + (S τ cc).length ≤ 1024) (fun _ _ _ wr => slpLen wr M cc)
  case atStart => exact ⟨R, σ, [], R0, V0, hQ, Step.refl _ _, by rw [hC0]; simp, by simpa using hl0⟩
  case round =>
    clear hQ hok hC0 R0 V0 hl0 A hC
    obtain ⟨R1, τ, L, hr, hv, hQ, hs, hE, hl⟩ := hrel
    obtain ⟨va, vc, rfl⟩ := own_shape hr
    have hok := hQ.ok
    have hln := hQ.slpLen hcc
    obtain ⟨_, ob, wb, sb, ab, vw, vs, h⟩ := id hQ
    obtain ⟨cl, a2⟩ := h.c3
    obtain ⟨u, a3, hu⟩ := h.sc hcc
    obtain ⟨sa, sc, rfl, -⟩ := hu.rd
    rw [ints_len] at a3
    clear h hu
    have SG := signal_any hQ (cc : Int)
    have hin : inO τ (cc : Int) = true := inN_of (by rw [hok.ol]; exact hcc)
    unfold sigV sigE sigS at SG
    rw [hin, if_pos rfl, if_pos rfl, if_pos rfl, Int.toNat_natCast] at SG
    cases hq : S τ cc with
    | nil =>
      rw [castA_nil hq, List.append_nil] at hE
      rw [hq, show ([] : List Nat).length = 0 from rfl] at a3
      replace hE := Hid.mk hE
      go_wp2_with fail
      go_ret2
      exact ⟨_, rfl, by rw [hE.out]; exact hr, R1, by rw [hE.out]; exact hQ, hs, hv⟩
    | cons t r =>
      have hS := S_sg hok hcc hq
      have hok2 := hok.sg hcc
      rw [castA_cons hok hcc hq] at hE
      rw [hq] at a3 hl hln
      have hl1 : (0 : Int) < ((t :: r).length : Int) := by simp
      rw [List.length_cons] at hl hln
      generalize hL : (t :: r).length = l at *
      clear hL
      by_cases hz : sgV τ cc = -1
      · rw [if_pos hz] at hE
        rw [hz] at SG
        replace hE := Hid.mk hE
        go_wp2_with (first | (go_at_call 30; (with_reducible refine SG.mono ?_); rintro e w2 ⟨rfl, R2, h2, s2⟩))
        obtain ⟨r2, v2⟩ := told_on hr hv s2
        have hln2 := h2.slpLen hcc
        rw [hS] at hln2
        go_roundw
        case rel => exact ⟨R2, _, L, r2, v2, h2, hs.trans s2, hE.out, by rw [hS]; omega⟩
        case measure =>
          rw [hln2, hln]
          omega
      · rw [if_neg hz] at hE
        have hz0 : 0 ≤ sgV τ cc := by
          unfold sgV at hz ⊢
          rw [hq] at hz ⊢
          dsimp only at hz ⊢
          split
          · omega
          · next h0 =>
            rw [if_neg h0] at hz
            exact absurd rfl hz
        have hz1 : ¬ sgV τ cc < 0 := by omega
        replace hE := Hid.mk hE
        generalize sgV τ cc = z at *
        go_wp2_with (first
          | (go_at_call 30; (with_reducible refine SG.mono ?_); rintro e w2 ⟨rfl, R2, h2, s2⟩; have k2 := told_on hr hv s2; have hR1 : RowI (w2.alloc (.cells #[.int .i64 z] 3)) w.heap.size (.slice va L.length vc) L := k2.1.below ((Below.refl _ w2).alloc (Nat.le_refl _) _); have hlow := fun k e => (k2.1.low k e).1; have hsz : w.heap.size ≤ (w2.alloc (.cells #[.int .i64 z] 3)).heap.size := by (have := (hs.trans s2).but.size; simp; omega))
          | (at_builtin; refine wpList_app1 rfl (.tmp 30) (.tmp 32) rfl w.heap.size _ L rfl hR1 _ _ z rfl (reads_one _ _) (by omega) hsz ?_; intro v3 w3 hr3 hg3 ha3))
        have h3 := h2.app hg3 k2.2
        have s3 : Step R w R2 w3 := Step.app (hs.trans s2) hg3 hlow
        have hln2 := h3.slpLen hcc
        rw [hS] at hln2
        have v3' : ∀ k, v3.ownBlock = some k → k ∉ R2 := fun k e hk => by
          rcases ha3 with h | h
          · exact k2.2 k (h ▸ e) hk
          · rw [h] at e
            have := Option.some.inj e
            have := h2.lt k hk
            simp at *
            omega
        go_roundw
        case rel => exact ⟨R2, _, L ++ [z], hr3, v3', h3, s3, by rw [hE.out]; simp, by rw [hS]; simp; omega⟩
        case measure =>
          rw [hln2, hln]
          omega
end
end Go.Proofs.Ytimoleijdfoahaa.Lo
