/- Contracts of the reference's digits and number. -/
import Derived.Test.YtgoedlgilgnphaaDoorTold
namespace Go.Proofs.YtgoedlgilgnphaaDoor
open Go.RowKit Go.Shelf

theorem digit_any (a : Nat) (ha : a < 10) (w : World) : Calls Tryd.prog 48 #[.int .i64 a] w fun e w' => e = .returned (.string ⟨(dd a).toArray⟩) ∧ w' = w := by
  have h : a = 0 ∨ a = 1 ∨ a = 2 ∨ a = 3 ∨ a = 4 ∨ a = 5 ∨ a = 6 ∨ a = 7 ∨ a = 8 ∨ a = 9 := by omega
  rcases h with rfl | rfl | rfl | rfl | rfl | rfl | rfl | rfl | rfl | rfl
  all_goals
    go_enter Tryd.func48, Tryd.ntmps48
    go_wp2_with fail
    go_ret
    exact ⟨by rfl, rfl⟩

theorem digits_any (a : Nat) (ha : a < 64) (w : World) : Calls Tryd.prog 48 #[.int .i64 a] w fun e w' => e = .returned (.string ⟨(dd a).toArray⟩) ∧ w' = w := by
  by_cases h : a < 10
  · exact digit_any a h w
  · have e : dd a = dd (a / 10) ++ dd (a % 10) := by
      have : ∀ a : Fin 64, ¬ a.1 < 10 → dd a.1 = dd (a.1 / 10) ++ dd (a.1 % 10) := by decide
      exact this ⟨a, ha⟩ h
    have l1 : (dd (a / 10)).length ≤ 2 := by unfold dd; split <;> simp
    have l2 : (dd (a % 10)).length ≤ 2 := by unfold dd; split <;> simp
    have D1 := fun W => digit_any (a / 10) (by omega) W
    have D2 := fun W => digit_any (a % 10) (by omega) W
    have e1 : ((a / 10 : Nat) : Int) = (a : Int) / 10 := by simp
    have e2 : ((a % 10 : Nat) : Int) = (a : Int) % 10 := by simp
    rw [e1] at D1
    rw [e2] at D2
    rw [e]
    generalize dd (a / 10) = x at D1 l1 e
    generalize dd (a % 10) = y at D2 l2 e
    have h1 : (10 : Int) ≤ (a : Int) := by omega
    clear e e1 e2
    go_enter Tryd.func48, Tryd.ntmps48
    go_wp2_with (first
      | (go_at_call 48; (with_reducible refine (D1 _).mono ?_); rintro e w' ⟨rfl, hw⟩; subst w')
      | (go_at_call 48; (with_reducible refine (D2 _).mono ?_); rintro e w' ⟨rfl, hw⟩; subst w'))
    go_ret
    refine ⟨?_, rfl⟩
    show Ending.returned (Value.string ((⟨x.toArray⟩ : ByteArray) ++ ⟨y.toArray⟩)) = _
    rw [ba_append]

theorem isD_false {c : UInt8} (h : isD c = false) : (c.toNat : Int) < 48 ∨ 57 < (c.toNat : Int) := by
  unfold isD at h
  simp at h
  by_cases h1 : 48 ≤ c.toNat
  · have := h h1; omega
  · omega
theorem isD_true {c : UInt8} (h : isD c = true) : 48 ≤ (c.toNat : Int) ∧ (c.toNat : Int) ≤ 57 ∧ ((dvR c : Nat) : Int) = (c.toNat : Int) - 48 := by
  unfold isD at h
  unfold dvR
  simp at h
  omega

set_option maxHeartbeats 1000000 in
theorem number_any (s : List UInt8) (hs : s.length ≤ 400) (w : World) :
    Calls Tryd.prog 44 #[.string ⟨s.toArray⟩] w fun e w' => e = .returned (.tuple #[.int .i64 ((numR s).1 : Nat), .int .i64 ((numR s).2 : Nat)]) ∧ w' = w := by
  match s, hs with
  | [], _ =>
    go_enter Tryd.func44, Tryd.ntmps44
    go_wp2_with fail
    go_loopw [4, 5] (fun v q wr => v = .int .i64 0 ∧ q = .int .i64 0 ∧ wr = w) (fun _ _ _ => 0)
    case atStart => exact ⟨rfl, rfl, rfl⟩
    case round =>
      obtain ⟨rfl, rfl, rfl⟩ := hrel
      go_wp2_with fail
      go_ret2
      exact ⟨rfl, rfl⟩
  | a :: t, hs =>
    have hg : ∀ h : 0 < (⟨(a :: t).toArray⟩ : ByteArray).size, (⟨(a :: t).toArray⟩ : ByteArray)[0] = a := fun _ => rfl
    cases ha : isD a with
    | false =>
      have e : numR (a :: t) = (0, 0) := by cases t <;> simp [numR, ha]
      rw [e]
      have h1 := isD_false ha
      clear ha e
      rcases h1 with h1 | h1
      all_goals
        go_enter Tryd.func44, Tryd.ntmps44
        go_wp2_with fail
        go_loopw [4, 5] (fun v q wr => v = .int .i64 0 ∧ q = .int .i64 0 ∧ wr = w) (fun _ _ _ => 0)
        case atStart => exact ⟨rfl, rfl, rfl⟩
        case round =>
          obtain ⟨rfl, rfl, rfl⟩ := hrel
          go_wp2_with fail
          go_ret2
          exact ⟨rfl, rfl⟩
    | true =>
      obtain ⟨h1, h2, h3⟩ := isD_true ha
      have hwa : IntKind.u8.wrap ((a.toNat : Int) - 48) = (a.toNat : Int) - 48 := by rw [IntKind.wrap_u8]; omega
      match t, hg, hs with
      | [], hg, _ =>
        have e : numR [a] = (dvR a, 1) := by simp [numR, ha]
        rw [e]
        dsimp only
        rw [h3]
        clear ha e h3
        go_enter Tryd.func44, Tryd.ntmps44
        go_wp2_with fail
        go_loopw [4, 5] (fun v q wr => ((v = .int .i64 0 ∧ q = .int .i64 0) ∨ (v = .int .i64 ((a.toNat : Int) - 48) ∧ q = .int .i64 1)) ∧ wr = w) (fun _ q _ => 1 - (intOf q).toNat)
        case atStart => exact ⟨.inl ⟨rfl, rfl⟩, rfl⟩
        case round =>
          obtain ⟨⟨rfl, rfl⟩ | ⟨rfl, rfl⟩, rfl⟩ := hrel
          · go_wp2_with fail
            go_roundw
            case rel => exact ⟨.inr ⟨by simp, rfl⟩, trivial⟩
            case measure => simp [intOf]
          · go_wp2_with fail
            go_ret2
            exact ⟨rfl, rfl⟩
      | b :: r, hg, hs =>
        have hg1 : ∀ h : 1 < (⟨(a :: b :: r).toArray⟩ : ByteArray).size, (⟨(a :: b :: r).toArray⟩ : ByteArray)[1] = b := fun _ => rfl
        have hl1 : (1 : Int) < (r.length : Int) + 1 + 1 := by omega
        have hl2 : (0 : Int) < (r.length : Int) + 1 + 1 := by omega
        cases hb : isD b with
        | false =>
          have e : numR (a :: b :: r) = (dvR a, 1) := by simp [numR, ha, hb]
          rw [e]
          dsimp only
          rw [h3]
          have g1 := isD_false hb
          clear ha hb e h3
          rcases g1 with g1 | g1
          all_goals
            go_enter Tryd.func44, Tryd.ntmps44
            go_wp2_with fail
            go_loopw [4, 5] (fun v q wr => ((v = .int .i64 0 ∧ q = .int .i64 0) ∨ (v = .int .i64 ((a.toNat : Int) - 48) ∧ q = .int .i64 1)) ∧ wr = w) (fun _ q _ => 1 - (intOf q).toNat)
            case atStart => exact ⟨.inl ⟨rfl, rfl⟩, rfl⟩
            case round =>
              obtain ⟨⟨rfl, rfl⟩ | ⟨rfl, rfl⟩, rfl⟩ := hrel
              · go_wp2_with fail
                go_roundw
                case rel => exact ⟨.inr ⟨by simp, rfl⟩, trivial⟩
                case measure => simp [intOf]
              · go_wp2_with fail
                go_ret2
                exact ⟨rfl, rfl⟩
        | true =>
          obtain ⟨g1, g2, g3⟩ := isD_true hb
          have hwb : IntKind.u8.wrap ((b.toNat : Int) - 48) = (b.toNat : Int) - 48 := by rw [IntKind.wrap_u8]; omega
          have e : numR (a :: b :: r) = (10 * dvR a + dvR b, 2) := by simp [numR, ha, hb]
          rw [e]
          dsimp only
          rw [show ((10 * dvR a + dvR b : Nat) : Int) = 10 * ((a.toNat : Int) - 48) + ((b.toNat : Int) - 48) by omega]
          clear ha hb e h3 g3
          go_enter Tryd.func44, Tryd.ntmps44
          go_wp2_with fail
          go_loopw [4, 5] (fun v q wr => ((v = .int .i64 0 ∧ q = .int .i64 0) ∨ (v = .int .i64 ((a.toNat : Int) - 48) ∧ q = .int .i64 1) ∨ (v = .int .i64 (10 * ((a.toNat : Int) - 48) + ((b.toNat : Int) - 48)) ∧ q = .int .i64 2)) ∧ wr = w) (fun _ q _ => 2 - (intOf q).toNat)
          case atStart => exact ⟨.inl ⟨rfl, rfl⟩, rfl⟩
          case round =>
            obtain ⟨⟨rfl, rfl⟩ | ⟨rfl, rfl⟩ | ⟨rfl, rfl⟩, rfl⟩ := hrel
            · go_wp2_with fail
              go_roundw
              case rel => exact ⟨.inr (.inl ⟨by simp, rfl⟩), trivial⟩
              case measure => simp [intOf]
            · go_wp2_with fail
              go_roundw
              case rel => exact ⟨.inr (.inr ⟨rfl, rfl⟩), trivial⟩
              case measure => simp [intOf]
            · go_wp2_with fail
              all_goals
                go_ret2
                exact ⟨rfl, rfl⟩
end Go.Proofs.YtgoedlgilgnphaaDoor
