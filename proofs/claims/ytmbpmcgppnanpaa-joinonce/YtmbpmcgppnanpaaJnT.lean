/- The walk of JoinTells, over any ends that tell as they must. -/
import Derived.Test.YtmbpmcgppnanpaaJnC
namespace Go.Proofs.Ytmbpmcgppnanpaa.Jn
open Go Go.RowKit Go.Proofs.Ytmbpmcgppnanpaa.Bs
set_option linter.unusedSimpArgs false

theorem grown_but {w w' : World} {row : Option Nat} (h : w.grownBy w' row) : But row.toList w w' :=
  ⟨h.os, h.tape, h.output, h.size, fun k hk hs => h.block k hk (fun e => hs (by rw [← e]; simp))⟩
theorem RowI.keeps {w w' : World} {S' : List Nat} {base : Nat} {v : Value} {q : List Int} (h : RowI w base v q) (hb : But S' w w') (hS : ∀ g, v.ownBlock = some g → g ∉ S') : RowI w' base v q :=
  ownsRow_put h (fun k e => hb.block k (rlow h k e).2 (hS k e))
/-- Those that wait for the first: so many. -/
def bys : Nat → List Int
  | 0 => []
  | t + 1 => bys t ++ [65536 + ((t : Int) + 1)]
def tA (t : Nat) : St := ⟨65536, false, 0, bys t⟩ :: List.replicate 11 r0
def tE (v : Int) : St := ⟨65536, true, v, []⟩ :: List.replicate 11 r0
def tN : St := ⟨131072, false, 0, []⟩ :: List.replicate 11 r0
theorem tA_0 : startS (new 12) 65536 = tA 0 := by kernel_rfl
theorem tA_join (t : Nat) (ht : t < 9) : joinV (tA t) 65536 (65536 + ((t : Int) + 1)) = 0 ∧ joinB (tA t) 65536 (65536 + ((t : Int) + 1)) = false ∧ joinE (tA t) 65536 (65536 + ((t : Int) + 1)) = 0 ∧ joinS (tA t) 65536 (65536 + ((t : Int) + 1)) = tA (t + 1) ∧ whI (tA (t + 1)) (65536 + ((t : Int) + 1)) = 65536 := by
  have e : t = 0 ∨ t = 1 ∨ t = 2 ∨ t = 3 ∨ t = 4 ∨ t = 5 ∨ t = 6 ∨ t = 7 ∨ t = 8 := by omega
  rcases e with rfl | rfl | rfl | rfl | rfl | rfl | rfl | rfl | rfl
  all_goals exact ⟨by kernel_rfl, by kernel_rfl, by kernel_rfl, by kernel_rfl, by kernel_rfl⟩
theorem tA_ok : ∀ t : Nat, t ≤ 9 → Ok 12 (tA t)
  | 0, _ => by
    have := (Ok.new (n := 12) (by omega) (by omega)).start 65536
    rwa [tA_0] at this
  | t + 1, h => by
    have := (tA_ok t (by omega)).join 65536 (65536 + ((t : Int) + 1))
    rwa [(tA_join t (by omega)).2.2.2.1] at this
theorem tA_end (t : Nat) (ht : t ≤ 9) (v : Int) : endE (tA t) 65536 = 0 ∧ endL (tA t) 65536 = bys t ∧ endS (tA t) 65536 v = tE v := by
  have e : t = 0 ∨ t = 1 ∨ t = 2 ∨ t = 3 ∨ t = 4 ∨ t = 5 ∨ t = 6 ∨ t = 7 ∨ t = 8 ∨ t = 9 := by omega
  rcases e with rfl | rfl | rfl | rfl | rfl | rfl | rfl | rfl | rfl | rfl
  all_goals exact ⟨by kernel_rfl, by kernel_rfl, by kernel_rfl⟩
theorem tE_join (v : Int) : joinV (tE v) 65536 65547 = v ∧ joinB (tE v) 65536 65547 = true ∧ joinE (tE v) 65536 65547 = 0 ∧ joinS (tE v) 65536 65547 = tE v ∧ whI (tE v) 65537 = 0 ∧ startE (tE v) 131072 = 0 ∧ startS (tE v) 131072 = tN := ⟨by kernel_rfl, by kernel_rfl, by kernel_rfl, by kernel_rfl, by kernel_rfl, by kernel_rfl, by kernel_rfl⟩
theorem tN_all : joinV tN 65536 65537 = 0 ∧ joinB tN 65536 65537 = false ∧ joinE tN 65536 65537 = 4 ∧ joinS tN 65536 65537 = tN ∧ stI tN 65536 = 0 ∧ stI tN 131072 = 1 := ⟨by kernel_rfl, by kernel_rfl, by kernel_rfl, by kernel_rfl, by kernel_rfl, by kernel_rfl⟩
theorem bys_len : ∀ t : Nat, (bys t).length = t
  | 0 => rfl
  | t + 1 => by
    show (bys t ++ [_]).length = _
    rw [List.length_append, bys_len t]
    rfl
section
variable {PL : World → Nat → List Nat → Nat → St → Prop}
set_option maxRecDepth 100000 in
set_option maxHeartbeats 8000000 in
theorem tells_law (S : Side PL) (a v : Int) (a0 : 0 ≤ a) (a1 : a ≤ 255) (w : World) :
    Calls Try.prog 4 #[.int .u8 a, .int .i64 v] w fun e w' => e = .returned (.bool true) ∧ Below w.heap.size w w' := by
  have HL : ∀ W, _ := fun W => lives_any S W
  have C0 : Calls Try.prog 8 #[.int .i64 12] w fun e w' => ∃ B Q, e = .returned (.pointer (some ⟨B, 0, none⟩)) ∧ PL w' B Q 12 (new 12) ∧ Step [] w Q w' := S.made 12 w (by omega) (by omega)
  have C1 : ∀ {X B Q}, PL X B Q 12 (new 12) → Calls Try.prog 12 #[.pointer (some ⟨B, 0, none⟩), .int .i64 65536] X fun e w' => e = .returned (.int .i64 0) ∧ ∃ Q', PL w' B Q' 12 (tA 0) ∧ Step Q X Q' w' := fun h => by
    have := S.start h (Ok.new (by omega) (by omega)) 65536 (iv_lit _ (by omega))
    rw [tA_0, show startE (new 12) 65536 = 0 by kernel_rfl] at this
    exact this
  have hm0 : 0 ≤ a % 9 := by omega
  have hm1 : a % 9 ≤ 8 := by omega
  go_enter Try.func4, Try.ntmps4
  go_wp2_with (first
    | (go_at_call 8; (with_reducible refine C0.mono ?_); rintro e w0 ⟨B, Q0, rfl, h0, s0⟩)
    | (go_at_call 12; (with_reducible refine (C1 h0).mono ?_); rintro e w1 ⟨rfl, Q1, h1, s1⟩))
  generalize a % 9 = m at *
  have s01 := s0.trans s1
  clear C0 C1 h0 s0 s1
  go_loopw [8, 7, 9, 10, 11, 12] (fun x u _ _ _ _ wr => ∃ (t : Nat) (Q : List Nat), (t : Int) ≤ 1 + m ∧ x = .int .i64 ((t : Int) + 1) ∧ PL wr B Q 12 (tA t) ∧ Step [] w Q wr ∧ RowI wr w.heap.size u (bys t) ∧ ∀ g, u.ownBlock = some g → g ∉ Q) (fun x _ _ _ _ _ _ => 20 - (intOf x).toNat)
  case atStart => exact ⟨0, Q1, by omega, rfl, h1, s01, ⟨by simp [bys], .inl ⟨rfl, rfl⟩⟩, fun g e => by cases e⟩
  case round =>
    clear h1 s01
    obtain ⟨t, Q, ht, rfl, h, hs, hr, hnq⟩ := hrel
    by_cases hlt : (t : Int) + 1 ≤ 1 + m
    · have ht9 : t < 9 := by omega
      obtain ⟨F1, F2, F3, F4, F5⟩ := tA_join t ht9
      have C1 := S.join h (tA_ok t (by omega)) 65536 (65536 + ((t : Int) + 1)) (iv_lit _ (by omega)) (iv_lit _ (by omega))
      rw [F1, F2, F3, F4] at C1
      have C2 : ∀ X Q, PL X B Q 12 (tA (t + 1)) → _ := fun X Q h => S.where_ (w := X) (Q := Q) h (tA_ok (t + 1) (by omega)) (65536 + ((t : Int) + 1)) (iv_lit _ (by omega))
      rw [F5] at C2
      have hlen : (bys t).length ≤ 10000 := by rw [bys_len]; omega
      clear F1 F2 F3 F4 F5
      have HB : Hid (bys (t + 1) = bys t ++ [65536 + ((t : Int) + 1)]) := rfl
      obtain ⟨ua, uc, rfl⟩ := own_shape hr
      have hnq2 : ∀ (w2 : World) Q2, Step Q wr Q2 w2 → ∀ g, (Value.slice ua (bys t).length uc).ownBlock = some g → g ∉ Q2 := fun w2 Q2 s2 g e hm => (s2.new g hm).elim (hnq g e) (fun l => by have := (rlow hr g e).2; omega)
      go_wp2_with (first
        | (go_at_call 13; (with_reducible refine C1.mono ?_); rintro e w2 ⟨rfl, Q2, h2, s2⟩; have hr2 := RowI.keeps hr s2.but hnq; replace hnq2 := hnq2 w2 Q2 s2)
        | (go_at_call 14; (with_reducible refine (C2 _ _ h2).mono ?_); rintro e w3 ⟨rfl, b3⟩; have b4 : Below w2.heap.size w2 (w3.alloc (.cells #[.int .i64 (65536 + ((t : Int) + 1))] 3)) := b3.alloc b3.size _; have hR := hr2.below b4; have h4 := S.keep h2 (.of_below b4); have s4 := (hs.trans s2).trans (Step.keep (.of_below b4)); have hsz := s4.but.size)
        | (at_builtin; refine wpList_app1 rfl (.tmp 59) (.tmp 61) rfl w.heap.size _ (bys t) rfl hR _ _ _ rfl (reads_one _ _) hlen hsz ?_; intro v5 w5 hr5 hg5 ha5))
      have hd : Disj Q2 (Value.slice ua (bys t).length uc).ownBlock.toList := fun x hx hm => by
        rw [Option.mem_toList] at hm
        exact hnq2 x hm hx
      have h5 := S.but h4 (grown_but hg5) hd
      have s5 : Step [] w Q2 w5 := ⟨s4.but.trans_new (grown_but hg5) (fun x hx => .inr ((rlow hR x (by rwa [Option.mem_toList] at hx)).1)), s4.new⟩
      have n5 : ∀ g, v5.ownBlock = some g → g ∉ Q2 := fun g e hm => ha5.elim (fun e2 => hnq2 g (e2 ▸ e) hm) (fun e2 => by rw [e2] at e; have := Option.some.inj e; have := S.lt h4 g hm; omega)
      go_roundw
      case rel => exact ⟨t + 1, Q2, by omega, by simp, h5, s5, by rw [HB.out]; exact hr5, n5⟩
      case measure =>
        simp [intOf]
        omega
    · have ht9 : t ≤ 9 := by omega
      obtain ⟨F1, F2, F3⟩ := tA_end t ht9 v
      obtain ⟨G1, G2, G3, G4, G5, G6, G7⟩ := tE_join v
      obtain ⟨N1, N2, N3, N4, N5, N6⟩ := tN_all
      have hokE : Ok 12 (tE v) := by
        have := (tA_ok t ht9).fin 65536 v
        rwa [F3] at this
      have hokN : Ok 12 tN := by
        have := hokE.start 131072
        rwa [G7] at this
      have C1 := S.end_ h (tA_ok t ht9) 65536 v (iv_lit _ (by omega))
      rw [F1, F2, F3] at C1
      have C2 : ∀ X Q, PL X B Q 12 (tE v) → _ := fun X Q h => S.join (w := X) (Q := Q) h hokE 65536 65547 (iv_lit _ (by omega)) (iv_lit _ (by omega))
      rw [G1, G2, G3, G4] at C2
      have C3 : ∀ X Q, PL X B Q 12 (tE v) → _ := fun X Q h => S.where_ (w := X) (Q := Q) h hokE 65537 (iv_lit _ (by omega))
      rw [G5] at C3
      have C4 : ∀ X Q, PL X B Q 12 (tE v) → _ := fun X Q h => S.start (w := X) (Q := Q) h hokE 131072 (iv_lit _ (by omega))
      rw [G6, G7] at C4
      have C5 : ∀ X Q, PL X B Q 12 tN → _ := fun X Q h => S.join (w := X) (Q := Q) h hokN 65536 65537 (iv_lit _ (by omega)) (iv_lit _ (by omega))
      rw [N1, N2, N3, N4] at C5
      have C6 : ∀ X Q, PL X B Q 12 tN → _ := fun X Q h => S.state (w := X) (Q := Q) h hokN 65536 (iv_lit _ (by omega))
      rw [N5] at C6
      have C7 : ∀ X Q, PL X B Q 12 tN → _ := fun X Q h => S.state (w := X) (Q := Q) h hokN 131072 (iv_lit _ (by omega))
      rw [N6] at C7
      have hlen : (bys t).length ≤ 4096 := by rw [bys_len]; omega
      obtain ⟨ua, uc, rfl⟩ := own_shape hr
      have hnq2 : ∀ (w2 : World) Q2, Step Q wr Q2 w2 → ∀ g, (Value.slice ua (bys t).length uc).ownBlock = some g → g ∉ Q2 := fun w2 Q2 s2 g e hm => (s2.new g hm).elim (hnq g e) (fun l => by have := (rlow hr g e).2; omega)
      have e_v : (v != v) = false := by simp
      clear F1 F2 F3 G1 G2 G3 G4 G5 G6 G7 N1 N2 N3 N4 N5 N6 hokE hokN
      generalize bys t = ys at *
      generalize hE : tE v = zE at *
      generalize tN = zN at *
      clear hE
      go_wp2_with (first
        | (go_at_call 15; (with_reducible refine C1.mono ?_); rintro e w2 ⟨u2, rfl, r2, Q2, h2, s2, n2⟩; replace hr := RowI.keeps hr s2.but hnq; replace hnq2 := hnq2 w2 Q2 s2; obtain ⟨a2, d2, rfl⟩ := own_shape r2; clear C1)
        | (go_at_call 13; first
          | ((with_reducible refine (C2 _ _ h2).mono ?_); rintro e w3 ⟨rfl, Q3, h3, s3⟩; replace hr := RowI.keeps hr s3.but hnq2; replace r2 := RowI.keeps r2 s3.but n2; clear C2)
          | ((with_reducible refine (C5 _ _ h6).mono ?_); rintro e w7 ⟨rfl, Q7, h7, s7⟩))
        | (go_at_call 16; (with_reducible refine (ints_any _ _ _ _ _ _ hlen r2.at hr.at).mono ?_); rintro e w4 ⟨rfl, b4⟩; have h4 := S.keep h3 (.of_below b4))
        | (go_at_call 14; (with_reducible refine (C3 _ _ h4).mono ?_); rintro e w5 ⟨rfl, b5⟩; have h5 := S.keep h4 (.of_below b5))
        | (go_at_call 12; (with_reducible refine (C4 _ _ h5).mono ?_); rintro e w6 ⟨rfl, Q6, h6, s6⟩)
        | (go_at_call 17; first
          | ((with_reducible refine (C6 _ _ h7).mono ?_); rintro e w8 ⟨rfl, b8⟩; have h8 := S.keep h7 (.of_below b8); clear C6)
          | ((with_reducible refine (C7 _ _ h8).mono ?_); rintro e w9 ⟨rfl, b9⟩))
        | (go_at_call 7; refine (HL _).mono ?_; rintro e w10 ⟨rfl, b10⟩))
      go_ret
      have q5 := ((hs.trans s2).trans s3).trans (Step.keep (.of_below (S := []) b4))
      have q6 := (q5.trans (Step.keep (.of_below (S := []) b5))).trans s6
      exact ⟨rfl, ((((q6.trans s7).but.trans (.of_below b8)).trans (.of_below b9)).trans (.of_below b10)).to_below⟩
end
end Go.Proofs.Ytmbpmcgppnanpaa.Jn
