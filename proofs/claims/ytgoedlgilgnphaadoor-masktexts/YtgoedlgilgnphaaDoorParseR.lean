/- The contract of the reference's Parse. -/
import Derived.Test.YtgoedlgilgnphaaDoorSyncM
import Derived.Deep.CutRange
namespace Go.Proofs.YtgoedlgilgnphaaDoor
open Go.RowKit Go.Shelf

/-- For the loop's measure. -/
def lenOf : Value → Nat
  | .string b => b.size
  | _ => 0

set_option maxRecDepth 100000 in
set_option maxHeartbeats 2000000 in
theorem rparse_any (s : List UInt8) (hs : s.length ≤ 400) (w : World) :
    Calls Tryd.prog 34 #[.string ⟨s.toArray⟩] w fun e w' => (∃ p, told s p ∧ e = .returned (.tuple #[.int .u64 (p.1 : Nat), .bool p.2])) ∧ Below w.heap.size w w' := by
  by_cases h0 : s = [45]
  · subst h0
    go_enter Tryd.func34, Tryd.ntmps34
    go_wp2_with fail
    go_ret2
    exact ⟨⟨(0, true), .inl ⟨0, by decide, text_zero, rfl⟩, rfl⟩, Below.refl _ _⟩
  · have hd : (s == [45]) = false := by simpa using h0
    go_enter Tryd.func34, Tryd.ntmps34
    go_wp2_with fail
    go_loopw [4, 5] (fun v q wr => ∃ (M : Nat) (rest : List UInt8), v = .int .u64 M ∧ M < 18446744073709551616 ∧ q = .string ⟨rest.toArray⟩ ∧ rest.length ≤ 400 ∧ Sync s rest M ∧ Below w.heap.size w wr) (fun _ q _ => lenOf q)
    case atStart => exact ⟨0, s, rfl, by decide, rfl, hs, sync_start s, Below.refl _ _⟩
    case round =>
      obtain ⟨M, rest, rfl, hM, rfl, hl, hS, hB⟩ := hrel
      obtain ⟨n1, n2, n3⟩ := num_le rest
      have N1 := fun W => number_any rest hl W
      have HS0 := sync_none h0 hS
      have HP := fun r1 => sync_plain (rest1 := r1) hS
      have HD := fun r2 => sync_dash (r2 := r2) hS
      have HDN := fun r2 => sync_dash_none (r2 := r2) h0 hS
      generalize (numR rest).1 = a at *
      generalize (numR rest).2 = k at *
      by_cases hk : k = 0
      · have hT := HS0 hk
        subst hk
        go_wp2_with (first
          | (go_at_call 44; (with_reducible refine (N1 _).mono ?_); rintro e w' ⟨rfl, hw⟩; subst w'))
        go_ret2
        exact ⟨⟨_, hT, rfl⟩, hB⟩
      · have hk0 : ((k : Int) == 0) = false := by simp; omega
        have hkl : (k : Int) ≤ (rest.length : Int) := by omega
        have hex := ext_drop rest k rest.length (Nat.le_refl _)
        obtain ⟨r1, hr1⟩ : ∃ r1, r1 = rest.drop k := ⟨_, rfl⟩
        have hr1l : Hid (r1.length = rest.length - k) := by unfold Hid; rw [hr1]; simp
        have HP1 := HP r1 hr1.symm
        have HD1 := fun r2 (h : r1 = 45 :: r2) => HD r2 (hr1.symm.trans h)
        have HDN1 := fun r2 (h : r1 = 45 :: r2) => HDN r2 (hr1.symm.trans h)
        rw [← hr1] at hex
        clear HS0 HP HD HDN hr1 hS
        have hr1m : r1.length ≤ 400 := by have := hr1l.out; omega
        have HKL : Hid (r1.length < rest.length) := by unfold Hid; have := hr1l.out; omega
        clear hr1l
        cases r1 with
        | nil =>
          have hT := HP1 (fun r h => by cases h)
          clear HP1 HD1 HDN1
          go_wp2_with (first
            | (go_at_call 44; (with_reducible refine (N1 _).mono ?_); rintro e w' ⟨rfl, hw⟩; subst w'))
          have HT2 : Hid (Then s [] (addN M a (a + 1 - a))) := by unfold Hid; rw [show a + 1 - a = 1 by omega]; exact hT
          clear hT HKL hex N1 hkl hk0
          go_loopw [4, 6] (fun v q wx => ∃ i : Nat, i ≤ a + 1 - a ∧ q = .int .i64 ((a + i : Nat) : Int) ∧ v = .int .u64 (addN M a i : Nat) ∧ Below w.heap.size w wx) (fun _ q _ => 100 - (intOf q).toNat)
          case atStart => exact ⟨0, Nat.zero_le _, rfl, rfl, hB⟩
          case round =>
            clear hB
            obtain ⟨i, hi, rfl, rfl, hB⟩ := hrel
            have hadd := addN_lt hM a i
            have hsu := addN_succ M a i
            by_cases hin : i < a + 1 - a
            · have hle : (a : Int) + (i : Int) ≤ (a : Int) := by omega
              have W1 := fun W => rwith_any (addN M a i) ((a + i : Nat) : Int) hadd W
              rw [← hsu] at W1
              have e1 : ((a + i : Nat) : Int) = (a : Int) + (i : Int) := by simp
              rw [e1] at W1 ⊢
              have hai : (a : Int) + (i : Int) ≤ 100 := by omega
              have hai0 : (0 : Int) ≤ (a : Int) + (i : Int) := by omega
              clear hsu e1
              go_wp2_with (first
                | (go_at_call 13; refine (W1 _).mono ?_; rintro e w4 ⟨rfl, hb4⟩))
              go_roundw
              case rel => exact ⟨i + 1, by omega, by simp; omega, rfl, hB.trans (hb4.mono hB.size)⟩
              case measure =>
                simp [intOf]
                omega
            · obtain rfl : i = a + 1 - a := by omega
              have hle : (a : Int) < ((a + (a + 1 - a) : Nat) : Int) := by omega
              have hThen := HT2.out
              have hT3 := fun W => rtext_any (addN M a (a + 1 - a)) hadd W
              clear hsu HT2
              generalize addN M a (a + 1 - a) = M2 at *
              generalize a + (a + 1 - a) = ae at *
              have hfin := then_end h0 hadd hThen
              by_cases hx : textL M2 = s
              · rw [if_pos hx] at hfin
                rw [hx] at hT3
                clear hx
                go_wp2_with (first
                  | (go_at_call 36; refine (hT3 _).mono ?_; rintro e w' ⟨rfl, hw⟩; subst w'))
                go_ret2
                exact ⟨⟨_, hfin, rfl⟩, hB⟩
              · rw [if_neg hx] at hfin
                have hxb : (textL M2 == s) = false := by simpa using hx
                generalize textL M2 = T at *
                go_wp2_with (first
                  | (go_at_call 36; refine (hT3 _).mono ?_; rintro e w' ⟨rfl, hw⟩; subst w'))
                go_ret2
                exact ⟨⟨_, hfin, rfl⟩, hB⟩
        | cons c r2 =>
          by_cases hc : c = 45
          · subst hc
            have hr2 : r2.length ≤ 400 := by simp at hr1m; omega
            have N2 := fun W => number_any r2 hr2 W
            obtain ⟨m1, m2, m3⟩ := num_le r2
            have HD2 := HD1 r2 rfl
            have HDN2 := HDN1 r2 rfl
            have hx1 := ext_drop (45 :: r2) 1 (r2.length + 1) (by simp)
            have hx1' : (45 :: r2).drop 1 = r2 := rfl
            rw [hx1'] at hx1
            have hx2 := fun k2 => ext_drop (45 :: r2) (1 + k2) (r2.length + 1) (by simp)
            have hx2' : ∀ k2, (45 :: r2).drop (1 + k2) = r2.drop k2 := fun k2 => by rw [Nat.add_comm]; rfl
            clear HP1 HD1 HDN1 hx1'
            generalize (numR r2).1 = b at *
            generalize (numR r2).2 = k2 at *
            have hx3 := hx2 k2
            rw [hx2'] at hx3
            clear hx2 hx2'
            obtain ⟨r3, hr3⟩ : ∃ r3, r3 = r2.drop k2 := ⟨_, rfl⟩
            rw [← hr3] at hx3 HD2
            have HL2 : Hid (r3.length < rest.length) := by unfold Hid; have := HKL.out; rw [hr3]; simp at this ⊢; omega
            have h4 : r3.length ≤ 400 := by rw [hr3]; simp; omega
            clear hr3 HKL
            have hl3 : (1 : Int) + (k2 : Int) ≤ (r2.length : Int) + 1 := by omega
            have hl4 : (0 : Int) ≤ (1 : Int) + (k2 : Int) := by omega
            have hl5 : (1 : Int) ≤ (r2.length : Int) + 1 := by omega
            have hg : ∀ h : 0 < (⟨(45 :: r2).toArray⟩ : ByteArray).size, (⟨(45 :: r2).toArray⟩ : ByteArray)[0] = 45 := fun _ => rfl
            have h45 : ((45 : UInt8).toNat : Int) = 45 := rfl
            by_cases hk2 : k2 = 0
            · have hT := HDN2 hk2
              subst hk2
              clear HD2 HDN2
              go_wp2_with (first
                | (go_at_call 44; (with_reducible refine (N1 _).mono ?_); rintro e w' ⟨rfl, hw⟩; subst w')
                | (go_at_call 44; (with_reducible refine (N2 _).mono ?_); rintro e w' ⟨rfl, hw⟩; subst w'))
              go_ret2
              exact ⟨⟨_, hT, rfl⟩, hB⟩
            · have hk2' : ((k2 : Int) == 0) = false := by simp; omega
              have HT2 : Hid (Then s r3 (addN M a (b + 1 - a))) := HD2
              clear HDN2 HD2
              go_wp2_with (first
                | (go_at_call 44; (with_reducible refine (N1 _).mono ?_); rintro e w' ⟨rfl, hw⟩; subst w')
                | (go_at_call 44; (with_reducible refine (N2 _).mono ?_); rintro e w' ⟨rfl, hw⟩; subst w'))
              rw [hx3]
              clear N1 N2 hex hx1 hx3 hg
              go_loopw [4, 6] (fun v q wx => ∃ i : Nat, i ≤ b + 1 - a ∧ q = .int .i64 ((a + i : Nat) : Int) ∧ v = .int .u64 (addN M a i : Nat) ∧ Below w.heap.size w wx) (fun _ q _ => 100 - (intOf q).toNat)
              case atStart => exact ⟨0, Nat.zero_le _, rfl, rfl, hB⟩
              case round =>
                clear hB
                obtain ⟨i, hi, rfl, rfl, hB⟩ := hrel
                have hadd := addN_lt hM a i
                have hsu := addN_succ M a i
                by_cases hin : i < b + 1 - a
                · have hle : (a : Int) + (i : Int) ≤ (b : Int) := by omega
                  have W1 := fun W => rwith_any (addN M a i) ((a + i : Nat) : Int) hadd W
                  rw [← hsu] at W1
                  have e1 : ((a + i : Nat) : Int) = (a : Int) + (i : Int) := by simp
                  rw [e1] at W1 ⊢
                  have hai : (a : Int) + (i : Int) ≤ 100 := by omega
                  have hai0 : (0 : Int) ≤ (a : Int) + (i : Int) := by omega
                  clear hsu e1
                  go_wp2_with (first
                    | (go_at_call 13; refine (W1 _).mono ?_; rintro e w4 ⟨rfl, hb4⟩))
                  go_roundw
                  case rel => exact ⟨i + 1, by omega, by simp; omega, rfl, hB.trans (hb4.mono hB.size)⟩
                  case measure =>
                    simp [intOf]
                    omega
                · obtain rfl : i = b + 1 - a := by omega
                  have hle : (b : Int) < ((a + (b + 1 - a) : Nat) : Int) := by omega
                  have hThen := HT2.out
                  have hT3 := fun W => rtext_any (addN M a (b + 1 - a)) hadd W
                  clear hsu HT2
                  generalize addN M a (b + 1 - a) = M2 at *
                  generalize a + (b + 1 - a) = ae at *
                  cases r3 with
                  | nil =>
                    have hfin := then_end h0 hadd hThen
                    by_cases hx : textL M2 = s
                    · rw [if_pos hx] at hfin
                      rw [hx] at hT3
                      clear hx
                      go_wp2_with (first
                        | (go_at_call 36; refine (hT3 _).mono ?_; rintro e w' ⟨rfl, hw⟩; subst w'))
                      go_ret2
                      exact ⟨⟨_, hfin, rfl⟩, hB⟩
                    · rw [if_neg hx] at hfin
                      have hxb : (textL M2 == s) = false := by simpa using hx
                      generalize textL M2 = T at *
                      go_wp2_with (first
                        | (go_at_call 36; refine (hT3 _).mono ?_; rintro e w' ⟨rfl, hw⟩; subst w'))
                      go_ret2
                      exact ⟨⟨_, hfin, rfl⟩, hB⟩
                  | cons c r =>
                    have hg : ∀ h : 0 < (⟨(c :: r).toArray⟩ : ByteArray).size, (⟨(c :: r).toArray⟩ : ByteArray)[0] = c := fun _ => rfl
                    by_cases hc4 : c = 44
                    · subst hc4
                      have hsy := then_more hThen
                      have hx1 := ext_drop (44 :: r) 1 (r.length + 1) (by simp)
                      have hx1' : (44 :: r).drop 1 = r := rfl
                      rw [hx1'] at hx1
                      have h44 : ((44 : UInt8).toNat : Int) = 44 := rfl
                      have hl6 : (1 : Int) ≤ (r.length : Int) + 1 := by omega
                      clear hx1' hThen hT3
                      go_wp2_with fail
                      go_roundw
                      case rel => exact ⟨M2, r, rfl, hadd, rfl, by simp at h4; omega, hsy, hB⟩
                      case measure =>
                        have := HL2.out
                        simp [lenOf, ByteArray.size]
                        simp at this
                        omega
                    · have hfin := then_bad h0 hThen hc4
                      have hcn4 : ((c.toNat : Int) == 44) = false := by
                        have h45 : (44 : UInt8).toNat = 44 := rfl
                        have hne : c.toNat ≠ 44 := fun h => hc4 (UInt8.toNat_inj.1 (h.trans h45.symm))
                        simp
                        omega
                      clear hThen hT3
                      go_wp2_with fail
                      go_ret2
                      exact ⟨⟨_, hfin, rfl⟩, hB⟩
          · have hT := HP1 (fun r h => hc (by cases h; rfl))
            have hg0 : ∀ h : 0 < (⟨(c :: r2).toArray⟩ : ByteArray).size, (⟨(c :: r2).toArray⟩ : ByteArray)[0] = c := fun _ => rfl
            have hcn : ((c.toNat : Int) == 45) = false := by
              have h45 : (45 : UInt8).toNat = 45 := rfl
              have hne : c.toNat ≠ 45 := fun h => hc (UInt8.toNat_inj.1 (h.trans h45.symm))
              simp
              omega
            have HL2 : Hid ((c :: r2).length < rest.length) := HKL
            have h4 : (c :: r2).length ≤ 400 := hr1m
            have HT2 : Hid (Then s (c :: r2) (addN M a (a + 1 - a))) := by unfold Hid; rw [show a + 1 - a = 1 by omega]; exact hT
            clear HP1 HD1 HDN1 hT
            go_wp2_with (first
              | (go_at_call 44; (with_reducible refine (N1 _).mono ?_); rintro e w' ⟨rfl, hw⟩; subst w'))
            clear N1 hex hg0 HKL
            go_loopw [4, 6] (fun v q wx => ∃ i : Nat, i ≤ a + 1 - a ∧ q = .int .i64 ((a + i : Nat) : Int) ∧ v = .int .u64 (addN M a i : Nat) ∧ Below w.heap.size w wx) (fun _ q _ => 100 - (intOf q).toNat)
            case atStart => exact ⟨0, Nat.zero_le _, rfl, rfl, hB⟩
            case round =>
              clear hB
              obtain ⟨i, hi, rfl, rfl, hB⟩ := hrel
              have hadd := addN_lt hM a i
              have hsu := addN_succ M a i
              by_cases hin : i < a + 1 - a
              · have hle : (a : Int) + (i : Int) ≤ (a : Int) := by omega
                have W1 := fun W => rwith_any (addN M a i) ((a + i : Nat) : Int) hadd W
                rw [← hsu] at W1
                have e1 : ((a + i : Nat) : Int) = (a : Int) + (i : Int) := by simp
                rw [e1] at W1 ⊢
                have hai : (a : Int) + (i : Int) ≤ 100 := by omega
                have hai0 : (0 : Int) ≤ (a : Int) + (i : Int) := by omega
                clear hsu e1
                go_wp2_with (first
                  | (go_at_call 13; refine (W1 _).mono ?_; rintro e w4 ⟨rfl, hb4⟩))
                go_roundw
                case rel => exact ⟨i + 1, by omega, by simp; omega, rfl, hB.trans (hb4.mono hB.size)⟩
                case measure =>
                  simp [intOf]
                  omega
              · obtain rfl : i = a + 1 - a := by omega
                have hle : (a : Int) < ((a + (a + 1 - a) : Nat) : Int) := by omega
                have hThen := HT2.out
                have hT3 := fun W => rtext_any (addN M a (a + 1 - a)) hadd W
                clear hsu HT2
                generalize addN M a (a + 1 - a) = M2 at *
                generalize a + (a + 1 - a) = ae at *
                have hg : ∀ h : 0 < (⟨(c :: r2).toArray⟩ : ByteArray).size, (⟨(c :: r2).toArray⟩ : ByteArray)[0] = c := fun _ => rfl
                by_cases hc4 : c = 44
                · subst hc4
                  have hsy := then_more hThen
                  have hx1 := ext_drop (44 :: r2) 1 (r2.length + 1) (by simp)
                  have hx1' : (44 :: r2).drop 1 = r2 := rfl
                  rw [hx1'] at hx1
                  have h44 : ((44 : UInt8).toNat : Int) = 44 := rfl
                  have hl6 : (1 : Int) ≤ (r2.length : Int) + 1 := by omega
                  clear hx1' hThen hT3
                  go_wp2_with fail
                  go_roundw
                  case rel => exact ⟨M2, r2, rfl, hadd, rfl, by simp at h4; omega, hsy, hB⟩
                  case measure =>
                    have := HL2.out
                    simp [lenOf, ByteArray.size]
                    simp at this
                    omega
                · have hfin := then_bad h0 hThen hc4
                  have hcn4 : ((c.toNat : Int) == 44) = false := by
                    have h45 : (44 : UInt8).toNat = 44 := rfl
                    have hne : c.toNat ≠ 44 := fun h => hc4 (UInt8.toNat_inj.1 (h.trans h45.symm))
                    simp
                    omega
                  clear hThen hT3
                  go_wp2_with fail
                  go_ret2
                  exact ⟨⟨_, hfin, rfl⟩, hB⟩
end Go.Proofs.YtgoedlgilgnphaaDoor
