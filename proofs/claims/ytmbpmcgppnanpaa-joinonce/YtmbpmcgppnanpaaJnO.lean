/- The walk of JoinOnce, over any ends that tell as they must. -/
import Derived.Test.YtmbpmcgppnanpaaJnT
namespace Go.Proofs.Ytmbpmcgppnanpaa.Jn
open Go Go.RowKit Go.Proofs.Ytmbpmcgppnanpaa.Bs
open Go.Proofs.Ytmbpmcgppnanpaa.Ids (right indexI ageI idI)
set_option linter.unusedSimpArgs false

section
variable {σ : St} {n : Nat}
theorem right_iv {x : Int} (h : right x) : Iv x := ⟨by have := h.1; omega, by have := h.2; omega⟩
/-- Who is told waits no more. -/
theorem Ok.told (h : Ok n σ) {id v x : Int} (hx : x ∈ endL σ id) : Jn.inR (endS σ id v) x = none ∧ Iv x := by
  have hok2 := h.fin id v
  unfold endL at hx
  split at hx
  · next e =>
    obtain ⟨k, e1, hk, -, -, ea, e5, e6⟩ := h.st1 e
    rw [ea] at hx
    refine ⟨hok2.inR_none (fun i hi hm => ?_), right_iv (right_of (h.wh k hk x hx).1)⟩
    unfold endS at hm
    rw [if_pos e, e1, Int.toNat_natCast, rw_set h hk] at hm
    split at hm
    · cases hm
    · next hne => exact h.dj k i hk hi (fun e => hne e.symm) x hx x hm rfl
  · cases hx
theorem none_wh {x : Int} (h : Jn.inR σ x = none) : whI σ x = 0 ∧ dropB σ x = false ∧ dropS σ x = σ := by
  refine ⟨?_, ?_, ?_⟩
  · unfold whI
    rw [h]
  · unfold dropB
    rw [h]
    rfl
  · unfold dropS
    rw [h]
theorem Ok.wh_st (h : Ok n σ) (t : Int) : Iv (whI σ t) ∧ (whI σ t ≠ 0 → stI σ (whI σ t) = 1) := by
  unfold whI
  split
  · next i e =>
    obtain ⟨hi, hm, -⟩ := h.inR e
    rcases h.id i hi with e0 | e0
    · rw [e0]
      exact ⟨⟨by omega, by omega⟩, fun h => absurd rfl h⟩
    · refine ⟨right_iv (right_of (by omega)), fun _ => ?_⟩
      have hen : (rw σ i).en = false := by
        cases hq : (rw σ i).en
        · rfl
        · have := h.q0 i hi (.inr hq)
          rw [this] at hm
          cases hm
      have hp : Jn.plc σ (rw σ i).id = i := by
        unfold Jn.plc
        rw [h.len, e0, if_neg (by omega)]
      have ha : at_ σ (rw σ i).id = rw σ i := by unfold at_; rw [hp, Int.toNat_natCast]
      unfold stI
      rw [hp, if_neg (by omega), ha, if_neg (by simp), hen]
      rfl
  · exact ⟨⟨by omega, by omega⟩, fun h => absurd rfl h⟩
end
section
variable {PL : World → Nat → List Nat → Nat → St → Prop}
set_option maxRecDepth 100000 in
set_option maxHeartbeats 8000000 in
theorem once_law (S : Side PL) (sa : Option Addr) (ca : Nat) (xs : List Ax) (w : World) (ha : Acts w sa xs) :
    Calls Try.prog 5 #[.slice sa xs.length ca] w fun e w' => e = .returned (.bool true) ∧ Below w.heap.size w w' := by
  have HL : ∀ W, _ := fun W => lives_any S W
  have CN : Calls Try.prog 8 #[.int .i64 5] w fun e w' => ∃ B Q, e = .returned (.pointer (some ⟨B, 0, none⟩)) ∧ PL w' B Q 5 (new 5) ∧ Step [] w Q w' := S.made 5 w (by omega) (by omega)
  have CR : ∀ X, Calls Try.prog 9 #[.int .i64 5] X fun e w' => ∃ M R, e = .returned (.pointer (some ⟨M, 0, none⟩)) ∧ RQ w' M R 5 (new 5) ∧ Step [] X R w' := fun X => rnew_some 5 (by omega) (by omega) X
  by_cases hlen : 150 < xs.length
  · have hlen' : (150 : Int) < (xs.length : Int) := by omega
    go_enter Try.func5, Try.ntmps5
    go_wp2_with (first
      | (go_at_call 8; (with_reducible refine CN.mono ?_); rintro e w1 ⟨B, Q1, rfl, h1, s1⟩)
      | (go_at_call 9; (with_reducible refine (CR _).mono ?_); rintro e w2 ⟨M, R1, rfl, h2, s2⟩)
      | (go_at_call 7; refine (HL _).mono ?_; rintro e w3 ⟨rfl, b2⟩))
    go_ret
    exact ⟨rfl, ((s1.but.trans s2.but).trans (.of_below b2)).to_below⟩
  have hlen' : (xs.length : Int) ≤ 150 := by omega
  go_enter Try.func5, Try.ntmps5
  go_wp2_with (first
    | (go_at_call 8; (with_reducible refine CN.mono ?_); rintro e w1 ⟨B, Q1, rfl, h1, s1⟩)
    | (go_at_call 9; (with_reducible refine (CR _).mono ?_); rintro e w2 ⟨M, R1, rfl, h2, s2⟩; have hP := Pr.new S h1 s1 h2 s2))
  clear h1 s1 h2 s2 CN CR
  go_loopw [30, 6, 7, 8, 9, 10, 12, 13] (fun v _ _ _ _ _ _ _ wr => ∃ (j : Nat) (Q R : List Nat) (σ : St), j ≤ xs.length ∧ v = .int .i64 j ∧ Pr PL w wr B Q M R 5 σ σ) (fun v _ _ _ _ _ _ _ _ => 150 - (intOf v).toNat)
  case atStart => exact ⟨0, _, _, _, by omega, rfl, hP⟩
  case round =>
    clear hP
    obtain ⟨j, Q, R, σ, hj, rfl, hP⟩ := hrel
    by_cases hlt : j < xs.length
    · obtain ⟨hx, b, o, rfl, x0, x1, x2, x3, x4, x5, x6⟩ := ha.below hP.s.below j xs[j] (by simp)
      have hlt' : (j : Int) < (xs.length : Int) := by omega
      generalize xs[j] = x at hx x0 x1 x2 x3 x4 x5 x6
      have hok := hP.r.ok
      have hP1 := hP.keep S ((But.refl [] wr).alloc (.cells x.cells 29))
      have hA := At7.new wr x
      have hoQ := hP.outQ S (Nat.le_refl _)
      have hoR := hP.outR (Nat.le_refl _)
      have hi := hx.id
      have ht := hx.t
      have J := ids_any x
      have AC : ∀ X Q R, Pr PL w X B Q M R 5 σ σ → _ := fun X Q R h => act_any S (w := X) h x hx
      have A7 : ∀ X, At7 X wr.heap.size x → _ := fun X h => h.all
      have C1 : ∀ X Q, PL X B Q 5 σ → _ := fun X Q h => S.waiters (w := X) (Q := Q) h hok x.id hi
      have C2 : ∀ X Q, PL X B Q 5 σ → _ := fun X Q h => S.end_ (w := X) (Q := Q) h hok x.id x.v hi
      have C3 : ∀ X R, RQ X M R 5 σ → _ := fun X R h => end_any (w := X) (R := R) h x.id x.v hi.2
      have C4 : ∀ X Q τ, PL X B Q 5 τ → Ok 5 τ → _ := fun X Q τ h hk => S.where_ (w := X) (Q := Q) h hk x.t ht
      have C5 : ∀ X Q τ, PL X B Q 5 τ → Ok 5 τ → _ := fun X Q τ h hk => S.state (w := X) (Q := Q) h hk (whI τ x.t) (hk.wh_st x.t).1
      have K5 : ∀ τ, Ok 5 τ → whI τ x.t ≠ 0 → stI τ (whI τ x.t) = 1 := fun τ hk => (hk.wh_st x.t).2
      have T5 : ∀ y ∈ endL σ x.id, Jn.inR (endS σ x.id x.v) y = none ∧ Iv y := fun y hy => hok.told hy
      have hokE := hok.fin x.id x.v
      have hokA := hok.act x
      have hL : (endL σ x.id).length ≤ 1024 := hok.endl x.id
      rw [show waitL σ x.id = endL σ x.id from rfl] at C1
      obtain ⟨k, p, a, b', g, raw, v⟩ := x
      generalize Ax.id ⟨k, p, a, b', g, raw, v⟩ = id at *
      generalize Ax.t ⟨k, p, a, b', g, raw, v⟩ = t at *
      dsimp only at x0 x1 x2 x3 x4 x5 x6 A7 C2 C3 T5 hokE
      dsimp only [Ax.cells] at hP1 hA AC J
      generalize actS σ ⟨k, p, a, b', g, raw, v⟩ = σA at *
      generalize endS σ id v = σE at *
      generalize endL σ id = ls at *
      generalize endE σ id = er at *
      clear hx hP hi ht
      go_wp2_with fail
      generalize wr.alloc (.cells #[.int .i64 k, .int .i64 p, .int .i64 a, .int .i64 b', .int .i64 g, .bool raw, .int .i64 v] 29) = W1 at *
      by_cases hk : k = 1
      · subst hk
        go_wp2_with (first
          | (go_at_call 18; (with_reducible refine (J _).mono ?_); rintro e wi ⟨rfl, hbi⟩; have hP2 := hP1.keep S (.of_below hbi); have hA2 := hA.but (.of_below hbi) (List.not_mem_nil (a := wr.heap.size)); clear hP1 hA)
          | (go_at_call 19; (with_reducible refine (C1 _ _ hP2.a).mono ?_); rintro e w3 ⟨vw, rfl, rw3, b3⟩; have hP3 := hP2.keep S (.of_below b3); have hA3 := hA2.but (.of_below b3) (List.not_mem_nil (a := wr.heap.size)); obtain ⟨y0, y1, y2, y3, y4, y5, y6⟩ := A7 _ hA3; have nQ : ∀ g, vw.ownBlock = some g → g ∉ Q := (fun g e => hP2.outQ S (rlow rw3 g e).1); have nR : ∀ g, vw.ownBlock = some g → g ∉ R := (fun g e => hP2.outR (rlow rw3 g e).1); obtain ⟨aw, dw, rfl⟩ := own_shape rw3)
          | (go_at_call 15; (with_reducible refine (C2 _ _ hP3.a).mono ?_); rintro e w4 ⟨u, rfl, r4, Q4, a4, s4, n4⟩; have hP4 := hP3.left a4 s4; obtain ⟨z0, z1, z2, z3, z4, z5, z6⟩ := A7 _ (hA3.but s4.but hoQ); replace rw3 := RowI.keeps rw3 s4.but nQ; have mR : ∀ g, u.ownBlock = some g → g ∉ R := (fun g e => hP3.outR (rlow r4 g e).1); obtain ⟨a4', d4, rfl⟩ := own_shape r4)
          | (go_at_call 20; (with_reducible refine (C3 _ _ hP4.r).mono ?_); rintro e w5 ⟨u2, rfl, -, R5, r5, s5⟩; have hP5 := hP4.right S r5 s5; replace rw3 := RowI.keeps rw3 s5.but nR; replace r4 := RowI.keeps r4 s5.but mR)
          | (go_at_call 16; (with_reducible refine (ints_any _ _ _ _ _ _ (by omega) r4.at rw3.at).mono ?_); rintro e w6 ⟨rfl, b6⟩; have hP6 := hP5.keep S (.of_below b6); replace r4 := r4.below b6))
        go_loopw [68, 12] (fun v _ wx => ∃ (i : Nat) (Q' : List Nat), i ≤ ls.length ∧ v = .int .i64 i ∧ Pr PL w wx B Q' M R5 5 σE σE ∧ RowI wx w3.heap.size (.slice a4' ls.length d4) ls ∧ ∀ g, (Value.slice a4' ls.length d4).ownBlock = some g → g ∉ Q') (fun v _ _ => 1024 - (intOf v).toNat)
        case atStart => exact ⟨0, Q4, by omega, rfl, hP6, r4, n4⟩
        case round =>
          clear hP6 r4 n4
          obtain ⟨i, Q7, hi, rfl, hP7, r7, n7⟩ := hrel
          by_cases hil : i < ls.length
          · have hil' : (i : Int) < (ls.length : Int) := by omega
            have hxx := List.getElem?_eq_getElem hil
            obtain ⟨g7, rfl, c7⟩ := r7.at i _ hxx
            obtain ⟨T1, T2⟩ := T5 _ (List.getElem_mem hil)
            obtain ⟨D1, D2, D3⟩ := none_wh T1
            have E1 := S.where_ hP7.a hokE _ T2
            rw [D1] at E1
            have E2 : ∀ X, PL X B Q7 5 σE → _ := fun X h => S.drop (w := X) (Q := Q7) h hokE _ T2
            rw [D2, D3] at E2
            generalize ls[i] = y at *
            clear T1 T2 D1 D2 D3 T5
            go_wp2_with (first
              | (go_at_call 14; (with_reducible refine E1.mono ?_); rintro e w8 ⟨rfl, b8⟩; have hP8 := hP7.keep S (.of_below b8); replace r7 := r7.below b8)
              | (go_at_call 21; (with_reducible refine (E2 _ hP8.a).mono ?_); rintro e w9 ⟨rfl, Q9, a9, s9⟩; have hP9 := hP8.left a9 s9; have n9 : ∀ g, (Value.slice (some ⟨g7, 0, none⟩) ls.length d4).ownBlock = some g → g ∉ Q9 := (fun g e hm => (s9.new g hm).elim (n7 g e) (fun l => by have := (rlow r7 g e).2; omega)); replace r7 := RowI.keeps r7 s9.but n7))
            go_roundw
            case rel => exact ⟨i + 1, Q9, by omega, by simp, hP9, r7, n9⟩
            case measure =>
              simp [intOf]
              omega
          obtain rfl : i = ls.length := by omega
          clear r7 n7 T5
          have C4' : ∀ X Q, PL X B Q 5 σE → _ := fun X Q h => C4 X Q σE h hokE
          have C5' : ∀ X Q, PL X B Q 5 σE → _ := fun X Q h => C5 X Q σE h hokE
          have K5' := K5 σE hokE
          generalize whI σE t = tw at *
          by_cases hz : tw = 0
          · subst hz
            clear K5' C5'
            go_wp2_with (first
              | (go_at_call 14; (with_reducible refine (C4' _ _ hP7.a).mono ?_); rintro e w8 ⟨rfl, b8⟩; have hP8 := hP7.keep S (.of_below b8)))
            go_roundw
            case rel => exact ⟨j + 1, _, _, _, by omega, by simp, hP8⟩
            case measure =>
              simp [intOf]
              omega
          · rw [K5' hz] at C5'
            have hz' : (tw != 0) = true := by simpa using hz
            clear K5'
            go_wp2_with (first
              | (go_at_call 14; (with_reducible refine (C4' _ _ hP7.a).mono ?_); rintro e w8 ⟨rfl, b8⟩; have hP8 := hP7.keep S (.of_below b8))
              | (go_at_call 17; (with_reducible refine (C5' _ _ hP8.a).mono ?_); rintro e w9 ⟨rfl, b9⟩; have hP9 := hP8.keep S (.of_below b9)))
            go_roundw
            case rel => exact ⟨j + 1, _, _, _, by omega, by simp, hP9⟩
            case measure =>
              simp [intOf]
              omega
      · have hk' : (k == 1) = false := by simpa using hk
        go_wp2_with (first
          | (go_at_call 18; (with_reducible refine (J _).mono ?_); rintro e wi ⟨rfl, hbi⟩; have hP2 := hP1.keep S (.of_below hbi); have hA2 := hA.but (.of_below hbi) (List.not_mem_nil (a := wr.heap.size)); clear hP1 hA)
          | (go_at_call 19; (with_reducible refine (C1 _ _ hP2.a).mono ?_); rintro e w3 ⟨vw, rfl, rw3, b3⟩; have hP3 := hP2.keep S (.of_below b3); have hA3 := hA2.but (.of_below b3) (List.not_mem_nil (a := wr.heap.size)); obtain ⟨y0, y1, y2, y3, y4, y5, y6⟩ := A7 _ hA3; obtain ⟨aw, dw, rfl⟩ := own_shape rw3)
          | (go_at_call 10; (with_reducible refine (AC _ _ _ hP3).mono ?_); rintro e w4 ⟨rfl, Q4, R4, hP4, s4⟩))
        go_loopw [68, 12] (fun v _ wx => v = .int .i64 0 ∧ wx = w4) (fun v _ _ => 1024 - (intOf v).toNat)
        case atStart => exact ⟨rfl, rfl⟩
        case round =>
          obtain ⟨rfl, rfl⟩ := hrel
          have C4' : ∀ X Q, PL X B Q 5 σA → _ := fun X Q h => C4 X Q σA h hokA
          have C5' : ∀ X Q, PL X B Q 5 σA → _ := fun X Q h => C5 X Q σA h hokA
          have K5' := K5 σA hokA
          generalize whI σA t = tw at *
          by_cases hz : tw = 0
          · subst hz
            clear K5' C5'
            go_wp2_with (first
              | (go_at_call 14; (with_reducible refine (C4' _ _ hP4.a).mono ?_); rintro e w8 ⟨rfl, b8⟩; have hP8 := hP4.keep S (.of_below b8)))
            go_roundw
            case rel => exact ⟨j + 1, _, _, _, by omega, by simp, hP8⟩
            case measure =>
              simp [intOf]
              omega
          · rw [K5' hz] at C5'
            have hz' : (tw != 0) = true := by simpa using hz
            clear K5'
            go_wp2_with (first
              | (go_at_call 14; (with_reducible refine (C4' _ _ hP4.a).mono ?_); rintro e w8 ⟨rfl, b8⟩; have hP8 := hP4.keep S (.of_below b8))
              | (go_at_call 17; (with_reducible refine (C5' _ _ hP8.a).mono ?_); rintro e w9 ⟨rfl, b9⟩; have hP9 := hP8.keep S (.of_below b9)))
            go_roundw
            case rel => exact ⟨j + 1, _, _, _, by omega, by simp, hP9⟩
            case measure =>
              simp [intOf]
              omega
    · obtain rfl : j = xs.length := by omega
      go_wp2_with (first
        | (go_at_call 7; refine (HL _).mono ?_; rintro e w3 ⟨rfl, b3⟩))
      go_ret
      exact ⟨rfl, ((But.of_below (S := []) hP.s.below).trans (.of_below b3)).to_below⟩
end
end Go.Proofs.Ytmbpmcgppnanpaa.Jn
