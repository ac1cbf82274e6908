/- The walk of SemaCounts, over any semaphores that tell as they must. -/
import Derived.Test.YtdmnobkbgmomdaaSeV
import Derived.Test.YtdmnobkbgmomdaaSeK
namespace Go.Proofs.Ytdmnobkbgmomdaa.Se
open Go Go.RowKit Go.Proofs.Ytdmnobkbgmomdaa.Bs
open Go.Proofs.Ytdmnobkbgmomdaa.Lk (inN inN_of inN_out ints ints_iv ints_len iv)

section
variable {σ : St} {n T : Nat}
/-- A Down that is let through takes one; another one takes none. -/
theorem vl_down (h : Ok n T σ) (o t : Int) : vl (downS σ o t) o.toNat = if downB σ o t then vl σ o.toNat - 1 else vl σ o.toNat := by
  unfold downB
  by_cases e : downE σ o t = 0
  · obtain ⟨a, b, rfl, rfl, ha, hb, hw⟩ := downE_zero h e
    unfold downS
    rw [if_pos e, Int.toNat_natCast, Int.toNat_natCast]
    unfold takeS
    by_cases f : 0 < vl σ a
    · rw [if_pos f, decide_eq_true ⟨e, f⟩, if_pos rfl, vl_set h ha, if_pos rfl]
    · rw [if_neg f, decide_eq_false (fun x => f x.2)]
      rfl
  · have : decide (downE σ o t = 0 ∧ 0 < vl σ o.toNat) = false := decide_eq_false (fun x => e x.1)
    unfold downS
    rw [if_neg e, this]
    rfl
theorem in0 (h : Ok 1 8 σ) : inO σ 0 = true := by rw [h.inO_iff]; rfl
theorem val0 (h : Ok 1 8 σ) : valX σ 0 = vl σ 0 := by unfold valX; rw [in0 h]; rfl
theorem wX0 (h : Ok 1 8 σ) (hx : 0 < vl σ 0) : wX σ 0 = [] := by unfold wX; rw [in0 h]; exact h.free 0 (by omega) hx
theorem up0V (h : Ok 1 8 σ) (hv : vl σ 0 < 1000000) : upE σ 0 = 0 ∧ ((upV σ 0 = -1 ∧ vl (upS σ 0) 0 = vl σ 0 + 1) ∨ (0 ≤ upV σ 0 ∧ vl (upS σ 0) 0 = vl σ 0)) := by
  unfold upE upV upS giveE giveS
  rw [in0 h]
  simp only [if_true, show (0 : Int).toNat = 0 from rfl]
  cases hq : W σ 0 with
  | nil =>
    have hn : ¬ 1000000 ≤ vl σ 0 := by omega
    refine ⟨by rw [if_neg (fun e => hn e.2)], .inl ⟨rfl, ?_⟩⟩
    dsimp only
    rw [if_neg hn, vl_set h (by omega), if_pos rfl]
  | cons t r => exact ⟨if_neg (fun e => by cases e.1), .inr ⟨by show (0 : Int) ≤ (t : Int); omega, rfl⟩⟩
/-- An Up goes to the first that waits, or makes the value one more. -/
theorem up0 (h : Ok 1 8 σ) (hv : vl σ 0 < 1000000) : upE σ 0 = 0 ∧ ((upR σ 0 = -1 ∧ vl (upS σ 0) 0 = vl σ 0 + 1) ∨ (0 ≤ upR σ 0 ∧ vl (upS σ 0) 0 = vl σ 0)) := by
  have := up0V h hv
  unfold upR
  rw [if_pos this.1]
  exact this
end
section
variable {PL : World → Nat → List Nat → Nat → Nat → St → Prop}
set_option maxRecDepth 100000 in
set_option maxHeartbeats 8000000 in
theorem counts_law (S : Side PL) (sa : Option Addr) (ca : Nat) (xs : List (Int × Int × Int)) (w : World) (ha : Acts w sa xs) :
    Calls Try.prog 3 #[.slice sa xs.length ca] w fun e w' => e = .returned (.bool true) ∧ Below w.heap.size w w' := by
  have HL : ∀ W, _ := fun W => lives_any S W
  have CM := S.made 1 8 w (by omega) (by omega) (by omega) (by omega)
  simp only [Int.natCast_one, show ((8 : Nat) : Int) = 8 from rfl] at CM
  by_cases hlen : 150 < xs.length
  · have hlen' : (150 : Int) < (xs.length : Int) := by omega
    go_enter Try.func3, Try.ntmps3
    go_wp2_with (first
      | (go_at_call 6; (with_reducible refine CM.mono ?_); rintro e w1 ⟨B, Q1, rfl, h1, s1⟩)
      | (go_at_call 7; refine (HL _).mono ?_; rintro e w2 ⟨rfl, b2⟩))
    go_ret
    exact ⟨rfl, (s1.but.trans (.of_below b2)).to_below⟩
  have hlen' : (xs.length : Int) ≤ 150 := by omega
  go_enter Try.func3, Try.ntmps3
  go_wp2_with (first
    | (go_at_call 6; (with_reducible refine CM.mono ?_); rintro e w1 ⟨B, Q1, rfl, h1, s1⟩))
  have hok1 : Ok 1 8 (new 1 8) := Ok.new (by omega) (by omega) (by omega) (by omega)
  have hv1 : ((0 : Nat) : Int) + vl (new 1 8) 0 = ((0 : Nat) : Int) := by rfl
  go_loopw [27, 4, 5, 7, 8, 9, 10, 11] (fun v vu vp _ _ _ _ _ wr => ∃ (j u p : Nat) (Q : List Nat) (σ : St), j ≤ xs.length ∧ v = .int .i64 j ∧ vu = .int .i64 u ∧ vp = .int .i64 p ∧ PL wr B Q 1 8 σ ∧ Ok 1 8 σ ∧ Step [] w Q wr ∧ (p : Int) + vl σ 0 = (u : Int) ∧ u ≤ j) (fun v _ _ _ _ _ _ _ _ => 150 - (intOf v).toNat)
  case atStart => exact ⟨0, 0, 0, _, _, by omega, rfl, rfl, rfl, h1, hok1, s1, hv1, by omega⟩
  case round =>
    clear h1 hok1 s1 hv1 CM
    obtain ⟨j, u, p, Q, σ, hj, rfl, rfl, rfl, hP, hok, hs, hsum, huj⟩ := hrel
    by_cases hlt : j < xs.length
    · obtain ⟨b, o, rfl, x0, x1, x2⟩ := ha.below hs.below j xs[j] (by simp)
      have hlt' : (j : Int) < (xs.length : Int) := by omega
      generalize xs[j] = x at x0 x1 x2
      obtain ⟨k, ov, tv⟩ := x
      dsimp only at x0 x1 x2
      have hP1 := S.keep hP ((But.refl [] wr).alloc (.cells #[.int .i64 k, .int .i64 ov, .int .i64 tv] 27))
      have hs1 := hs.trans (Step.keep (T := Q) ((But.refl [] wr).alloc (.cells #[.int .i64 k, .int .i64 ov, .int .i64 tv] 27)))
      have hA1 := At3.new wr k ov tv
      obtain ⟨hv0, -⟩ := hok.v 0 (by omega)
      have CU := fun X Q (h : PL X B Q 1 8 σ) => S.up (w := X) (Q := Q) h hok 0
      go_upto_region 8 with fail
      generalize wr.alloc (.cells #[.int .i64 k, .int .i64 ov, .int .i64 tv] 27) = W3 at *
      obtain ⟨y0, y1, y2⟩ := hA1
      clear x0 x1 x2 hP hs
      by_cases hk : k = 1
      · subst hk
        obtain ⟨eE, eV⟩ := up0 hok (by omega)
        rw [eE] at CU
        have hok2 := hok.up 0
        generalize upS σ 0 = σ2 at *
        generalize upR σ 0 = V at *
        obtain ⟨hz0, -⟩ := hok2.v 0 (by omega)
        have CV := fun X Q (h : PL X B Q 1 8 σ2) => S.value (w := X) (Q := Q) h hok2 0
        have CN := fun X Q (h : PL X B Q 1 8 σ2) => S.waiters (w := X) (Q := Q) h hok2 0
        rw [val0 hok2] at CV
        clear eE
        by_cases hx : 0 < vl σ2 0
        · rw [wX0 hok2 hx] at CN
          rcases eV with ⟨rfl, ev⟩ | ⟨hV, ev⟩
          · have hsum2 : (p : Int) + vl σ2 0 = (u : Int) + 1 := by omega
            clear ev hsum
            generalize hxe : vl σ2 0 = x at *
            replace hxe := Hid.mk hxe
            generalize vl σ 0 = xo at *
            go_wp2_with (first
              | (go_at_call 8; (with_reducible refine (CU _ _ hP1).mono ?_); rintro e w2 ⟨rfl, Q2, h2, s2⟩)
              | (go_at_call 10; first | ((with_reducible refine (CV _ _ h2).mono ?_); rintro e w6 ⟨rfl, b6⟩; have h6 := S.keep h2 (.of_below b6)) | ((with_reducible refine (CV _ _ h6).mono ?_); rintro e w7 ⟨rfl, b7⟩; have h7 := S.keep h6 (.of_below b7)))
              | (go_at_call 11; (with_reducible refine (CN _ _ h7).mono ?_); rintro e w8 ⟨v8, rfl, r8, b8⟩; obtain ⟨va, vc, rfl⟩ : ∃ a c, v8 = .slice a 0 c := own_shape r8; have h8 := S.keep h7 (.of_below b8)))
            go_roundw
            case rel => exact ⟨j + 1, u + 1, p, _, _, by omega, by simp, by simp, by simp, h8, hok2, (((hs1.trans s2).trans (Step.keep (.of_below b6))).trans (Step.keep (.of_below b7))).trans (Step.keep (.of_below b8)), by rw [hxe.out]; omega, by omega⟩
            case measure =>
              simp [intOf]
              omega
          · have hsum2 : (p : Int) + 1 + vl σ2 0 = (u : Int) + 1 := by omega
            clear ev hsum
            generalize hxe : vl σ2 0 = x at *
            replace hxe := Hid.mk hxe
            generalize vl σ 0 = xo at *
            go_wp2_with (first
              | (go_at_call 8; (with_reducible refine (CU _ _ hP1).mono ?_); rintro e w2 ⟨rfl, Q2, h2, s2⟩)
              | (go_at_call 10; first | ((with_reducible refine (CV _ _ h2).mono ?_); rintro e w6 ⟨rfl, b6⟩; have h6 := S.keep h2 (.of_below b6)) | ((with_reducible refine (CV _ _ h6).mono ?_); rintro e w7 ⟨rfl, b7⟩; have h7 := S.keep h6 (.of_below b7)))
              | (go_at_call 11; (with_reducible refine (CN _ _ h7).mono ?_); rintro e w8 ⟨v8, rfl, r8, b8⟩; obtain ⟨va, vc, rfl⟩ : ∃ a c, v8 = .slice a 0 c := own_shape r8; have h8 := S.keep h7 (.of_below b8)))
            go_roundw
            case rel => exact ⟨j + 1, u + 1, p + 1, _, _, by omega, by simp, by simp, by simp, h8, hok2, (((hs1.trans s2).trans (Step.keep (.of_below b6))).trans (Step.keep (.of_below b7))).trans (Step.keep (.of_below b8)), by rw [hxe.out]; omega, by omega⟩
            case measure =>
              simp [intOf]
              omega
        · rcases eV with ⟨rfl, ev⟩ | ⟨hV, ev⟩
          · have hsum2 : (p : Int) + vl σ2 0 = (u : Int) + 1 := by omega
            clear ev hsum
            have hx0 : ¬ 0 < vl σ2 0 := hx
            generalize hxe : vl σ2 0 = x at *
            replace hxe := Hid.mk hxe
            generalize vl σ 0 = xo at *
            go_wp2_with (first
              | (go_at_call 8; (with_reducible refine (CU _ _ hP1).mono ?_); rintro e w2 ⟨rfl, Q2, h2, s2⟩)
              | (go_at_call 10; first | ((with_reducible refine (CV _ _ h2).mono ?_); rintro e w6 ⟨rfl, b6⟩; have h6 := S.keep h2 (.of_below b6)) | ((with_reducible refine (CV _ _ h6).mono ?_); rintro e w7 ⟨rfl, b7⟩; have h7 := S.keep h6 (.of_below b7))))
            go_roundw
            case rel => exact ⟨j + 1, u + 1, p, _, _, by omega, by simp, by simp, by simp, h7, hok2, ((hs1.trans s2).trans (Step.keep (.of_below b6))).trans (Step.keep (.of_below b7)), by rw [hxe.out]; omega, by omega⟩
            case measure =>
              simp [intOf]
              omega
          · have hsum2 : (p : Int) + 1 + vl σ2 0 = (u : Int) + 1 := by omega
            clear ev hsum
            generalize hxe : vl σ2 0 = x at *
            replace hxe := Hid.mk hxe
            generalize vl σ 0 = xo at *
            go_wp2_with (first
              | (go_at_call 8; (with_reducible refine (CU _ _ hP1).mono ?_); rintro e w2 ⟨rfl, Q2, h2, s2⟩)
              | (go_at_call 10; first | ((with_reducible refine (CV _ _ h2).mono ?_); rintro e w6 ⟨rfl, b6⟩; have h6 := S.keep h2 (.of_below b6)) | ((with_reducible refine (CV _ _ h6).mono ?_); rintro e w7 ⟨rfl, b7⟩; have h7 := S.keep h6 (.of_below b7))))
            go_roundw
            case rel => exact ⟨j + 1, u + 1, p + 1, _, _, by omega, by simp, by simp, by simp, h7, hok2, ((hs1.trans s2).trans (Step.keep (.of_below b6))).trans (Step.keep (.of_below b7)), by rw [hxe.out]; omega, by omega⟩
            case measure =>
              simp [intOf]
              omega
      · have hk1 : (k == 1) = false := by simpa using hk
        obtain ⟨y, hy⟩ : ∃ y, wrap64 ((IntKind.u64.wrap tv).tmod 8) = y := ⟨_, rfl⟩
        have CD := fun X Q (h : PL X B Q 1 8 σ) => S.down (w := X) (Q := Q) h hok 0 y
        have ev : vl (downS σ 0 y) 0 = if downB σ 0 y then vl σ 0 - 1 else vl σ 0 := vl_down hok 0 y
        have hok2 := hok.down 0 y
        generalize downS σ 0 y = σ2 at *
        generalize downE σ 0 y = E at *
        obtain ⟨hz0, -⟩ := hok2.v 0 (by omega)
        have CV := fun X Q (h : PL X B Q 1 8 σ2) => S.value (w := X) (Q := Q) h hok2 0
        have CN := fun X Q (h : PL X B Q 1 8 σ2) => S.waiters (w := X) (Q := Q) h hok2 0
        rw [val0 hok2] at CV
        clear CU hk
        generalize downB σ 0 y = D at *
        by_cases hx : 0 < vl σ2 0
        · rw [wX0 hok2 hx] at CN
          cases D
          · simp only [Bool.false_eq_true, if_false] at ev
            have hsum2 : (p : Int) + vl σ2 0 = (u : Int) := by omega
            clear ev hsum
            generalize hxe : vl σ2 0 = x at *
            replace hxe := Hid.mk hxe
            generalize vl σ 0 = xo at *
            go_wp2_with (first
              | (go_at_call 9; (with_reducible refine (CD _ _ hP1).mono ?_); rintro e w2 ⟨rfl, Q2, h2, s2⟩)
              | (go_at_call 10; first | ((with_reducible refine (CV _ _ h2).mono ?_); rintro e w6 ⟨rfl, b6⟩; have h6 := S.keep h2 (.of_below b6)) | ((with_reducible refine (CV _ _ h6).mono ?_); rintro e w7 ⟨rfl, b7⟩; have h7 := S.keep h6 (.of_below b7)))
              | (go_at_call 11; (with_reducible refine (CN _ _ h7).mono ?_); rintro e w8 ⟨v8, rfl, r8, b8⟩; obtain ⟨va, vc, rfl⟩ : ∃ a c, v8 = .slice a 0 c := own_shape r8; have h8 := S.keep h7 (.of_below b8)))
            go_roundw
            case rel => exact ⟨j + 1, u, p, _, _, by omega, by simp, rfl, rfl, h8, hok2, (((hs1.trans s2).trans (Step.keep (.of_below b6))).trans (Step.keep (.of_below b7))).trans (Step.keep (.of_below b8)), by rw [hxe.out]; omega, by omega⟩
            case measure =>
              simp [intOf]
              omega
          · simp only [if_true] at ev
            have hsum2 : (p : Int) + 1 + vl σ2 0 = (u : Int) := by omega
            clear ev hsum
            generalize hxe : vl σ2 0 = x at *
            replace hxe := Hid.mk hxe
            generalize vl σ 0 = xo at *
            go_wp2_with (first
              | (go_at_call 9; (with_reducible refine (CD _ _ hP1).mono ?_); rintro e w2 ⟨rfl, Q2, h2, s2⟩)
              | (go_at_call 10; first | ((with_reducible refine (CV _ _ h2).mono ?_); rintro e w6 ⟨rfl, b6⟩; have h6 := S.keep h2 (.of_below b6)) | ((with_reducible refine (CV _ _ h6).mono ?_); rintro e w7 ⟨rfl, b7⟩; have h7 := S.keep h6 (.of_below b7)))
              | (go_at_call 11; (with_reducible refine (CN _ _ h7).mono ?_); rintro e w8 ⟨v8, rfl, r8, b8⟩; obtain ⟨va, vc, rfl⟩ : ∃ a c, v8 = .slice a 0 c := own_shape r8; have h8 := S.keep h7 (.of_below b8)))
            go_roundw
            case rel => exact ⟨j + 1, u, p + 1, _, _, by omega, by simp, rfl, by simp, h8, hok2, (((hs1.trans s2).trans (Step.keep (.of_below b6))).trans (Step.keep (.of_below b7))).trans (Step.keep (.of_below b8)), by rw [hxe.out]; omega, by omega⟩
            case measure =>
              simp [intOf]
              omega
        · cases D
          · simp only [Bool.false_eq_true, if_false] at ev
            have hsum2 : (p : Int) + vl σ2 0 = (u : Int) := by omega
            clear ev hsum
            generalize hxe : vl σ2 0 = x at *
            replace hxe := Hid.mk hxe
            generalize vl σ 0 = xo at *
            go_wp2_with (first
              | (go_at_call 9; (with_reducible refine (CD _ _ hP1).mono ?_); rintro e w2 ⟨rfl, Q2, h2, s2⟩)
              | (go_at_call 10; first | ((with_reducible refine (CV _ _ h2).mono ?_); rintro e w6 ⟨rfl, b6⟩; have h6 := S.keep h2 (.of_below b6)) | ((with_reducible refine (CV _ _ h6).mono ?_); rintro e w7 ⟨rfl, b7⟩; have h7 := S.keep h6 (.of_below b7))))
            go_roundw
            case rel => exact ⟨j + 1, u, p, _, _, by omega, by simp, rfl, rfl, h7, hok2, ((hs1.trans s2).trans (Step.keep (.of_below b6))).trans (Step.keep (.of_below b7)), by rw [hxe.out]; omega, by omega⟩
            case measure =>
              simp [intOf]
              omega
          · simp only [if_true] at ev
            have hsum2 : (p : Int) + 1 + vl σ2 0 = (u : Int) := by omega
            clear ev hsum
            generalize hxe : vl σ2 0 = x at *
            replace hxe := Hid.mk hxe
            generalize vl σ 0 = xo at *
            go_wp2_with (first
              | (go_at_call 9; (with_reducible refine (CD _ _ hP1).mono ?_); rintro e w2 ⟨rfl, Q2, h2, s2⟩)
              | (go_at_call 10; first | ((with_reducible refine (CV _ _ h2).mono ?_); rintro e w6 ⟨rfl, b6⟩; have h6 := S.keep h2 (.of_below b6)) | ((with_reducible refine (CV _ _ h6).mono ?_); rintro e w7 ⟨rfl, b7⟩; have h7 := S.keep h6 (.of_below b7))))
            go_roundw
            case rel => exact ⟨j + 1, u, p + 1, _, _, by omega, by simp, rfl, by simp, h7, hok2, ((hs1.trans s2).trans (Step.keep (.of_below b6))).trans (Step.keep (.of_below b7)), by rw [hxe.out]; omega, by omega⟩
            case measure =>
              simp [intOf]
              omega
    · obtain rfl : j = xs.length := by omega
      go_wp2_with (first
        | (go_at_call 7; refine (HL _).mono ?_; rintro e w3 ⟨rfl, b3⟩))
      go_ret
      exact ⟨rfl, (hs.but.trans (.of_below b3)).to_below⟩
end
end Go.Proofs.Ytdmnobkbgmomdaa.Se
