/- Drop. -/
import Derived.Test.YtimoleijdfoahaaLqK
import Derived.Test.YtimoleijdfoahaaLoE
import Derived.Test.YtimoleijdfoahaaLqT
namespace Go.Proofs.Ytimoleijdfoahaa.Lq
open Go Go.RowKit Go.Proofs.Ytimoleijdfoahaa.Bs Go.Proofs.Ytimoleijdfoahaa.Lo
open Go.Proofs.Ytimoleijdfoahaa.Lk (LQ Pl iv ints inN inN_of inN_out wI wI_nat whI whI_cases remE remS remove_any lsI lsI_nat)
variable {w w' : World} {B o a n T : Nat} {P : Pl} {σ : St}

/-- A thing taken out of its list is in none. -/
theorem remS_rm (H : Ok n T σ) {t : Nat} (ht : t < T) : remS T σ.ls (t : Int) = σ.ls.map (outL t) := by
  have ho : ∀ q : List Nat, t ∉ q → outL t q = q := fun q hq => by
    unfold outL
    refine List.filter_eq_self.2 (fun x hx => ?_)
    simp
    exact fun e => hq (e ▸ hx)
  unfold remS remE
  rw [inN_of ht, if_pos rfl, wI_nat]
  rcases whI_cases H.ls.len t with ⟨e, hn⟩ | ⟨i, q, hq, hm, e, hi⟩
  · rw [e, if_pos rfl, if_neg (by decide)]
    refine (List.ext_getElem? fun k => ?_)
    rw [List.getElem?_map]
    cases hk : σ.ls[k]? with
    | none => rfl
    | some p => rw [Option.map_some, ho p (hn k p hk)]
  · rw [e, if_neg (by omega : ¬ ((i : Nat) : Int) = -1), if_pos rfl, lsI_nat, Int.toNat_natCast, Int.toNat_natCast]
    have hg : σ.ls.getD i [] = q := by rw [List.getD_eq_getElem?_getD, hq]; rfl
    rw [hg]
    refine (List.ext_getElem? fun k => ?_)
    rw [List.getElem?_map]
    by_cases hk : k = i
    · subst hk
      rw [List.getElem?_set_self (List.getElem?_eq_some_iff.1 hq).1, hq]
      rfl
    · rw [List.getElem?_set_ne (fun x => hk x.symm)]
      cases hk2 : σ.ls[k]? with
      | none => rfl
      | some p => rw [Option.map_some, ho p (H.ls.dj i k q p hq hk2 (fun x => hk x.symm) t hm)]
set_option maxRecDepth 100000
set_option maxHeartbeats 8000000 in
theorem drop_any (h : PM w B o a P n T σ) (H : Ok n T σ) (t : Int) :
    Calls Try.prog 23 #[.pointer (some ⟨B, 0, none⟩), .int .i64 t] w fun e w' => ∃ v, e = .returned v ∧ RowI w' w.heap.size v (dropL σ t) ∧ PM w' B o a P n T (dropS σ t) ∧ But (bl B o a P) w w' := by
  have CT := thr_any h H t
  have R0 : ∀ X, RowI X w.heap.size (.slice none 0 0) [] := fun X => ⟨by simp, .inl ⟨rfl, rfl⟩⟩
  have hlb := h.lt
  unfold dropL dropS
  cases hT : inT σ t
  · rw [hT] at CT
    simp only [Bool.false_eq_true, if_false]
    go_enter Try.func23, Try.ntmps23
    go_wp2_with (first
      | (go_at_call 39; (with_reducible refine CT.mono ?_); rintro e w1 ⟨F1, A1, rfl, s1, b1⟩; have h1 := h.keep b1; have CA := ask1 h1 s1; unfold unl at CA; simp only [Bool.false_eq_true, if_false] at CA)
      | (go_at_call 34; (with_reducible refine (CA _).mono ?_); rintro e w2 ⟨rfl, b2⟩; have h2 := h1.keep b2))
    go_ret
    exact ⟨_, rfl, R0 _, h2, (b1.trans b2).wide⟩
  rw [hT] at CT
  simp only [if_true]
  obtain ⟨b, rfl, hb⟩ := inT_out H hT
  rw [Int.toNat_natCast, H.ol]
  have n2 := H.n2
  have hrm := H.rm b
  have CR : ∀ X, PM X B o a P n T σ → Calls Try.prog 49 #[.pointer (some ⟨P.B, 0, none⟩), .int .i64 b] X fun e w' => (∃ x, e = .returned (.int .i64 x)) ∧ PM w' B o a P n T (rm σ b) ∧ But (bl B o a P) X w' := fun X hX => (remove_any hX.q (b : Int)).mono fun e w' ⟨h1, h2, h3⟩ => ⟨⟨_, h1⟩, by rw [remS_rm H hb] at h2; exact hX.lists h2 h3, h3.mono (sub_S B o a P)⟩
  obtain ⟨ρ, hρ⟩ : ∃ ρ, Hid (rm σ b = ρ) := ⟨_, rfl⟩
  rw [hρ.out] at hrm CR ⊢
  clear hρ hT
  go_enter Try.func23, Try.ntmps23
  go_wp2_with (first
    | (go_at_call 39; (with_reducible refine CT.mono ?_); rintro e w1 ⟨F1, A1, rfl, s1, b1⟩; have h1 := h.keep b1; have CA := ask1 h1 s1; unfold unl at CA; simp only [if_true] at CA)
    | (go_at_call 34; (with_reducible refine (CA _).mono ?_); rintro e w2 ⟨rfl, b2⟩; have h2 := h1.keep b2; have c2 := h2.c2)
    | (go_at_call 49; (with_reducible refine (CR _ h2).mono ?_); rintro e w3 ⟨⟨x, rfl⟩, h3, b3⟩; obtain ⟨k3, hk3, c3⟩ := h3.c0; have bd := (b1.trans b2).wide.trans b3))
  clear CT CR
  go_loopw [26, 5, 6, 7] (fun v tl _ _ wr => ∃ i : Nat, i ≤ n ∧ v = .int .i64 i ∧ RowI wr w.heap.size tl (dpL b ρ i) ∧ PM wr B o a P n T (dpS b ρ i) ∧ But (bl B o a P) w wr) (fun v _ _ _ _ => 64 - (intOf v).toNat)
  case atStart => exact ⟨0, Nat.zero_le _, rfl, R0 _, h3, bd⟩
  case round =>
    clear h3 h2 h1 bd c2 c3
    obtain ⟨i, hi, rfl, hr, hP, hb'⟩ := hrel
    obtain ⟨va, vc, rfl⟩ := own_shape hr
    by_cases hlt : i < n
    · have hlt' : (i : Int) < (n : Int) := by omega
      have CP := pass_any hP hlt
      obtain ⟨k2, hk2, d1⟩ := hP.c0
      have d2 := hP.xo hlt
      have hl := dpL_len (σ := ρ) b i
      have hbs := hb'.size
      by_cases hm : ow (dpS b ρ i) i = (b : Int)
      · have eS : Hid (dpS b ρ (i + 1) = passS (dpS b ρ i) i) := by show dpS b ρ (i + 1) = _; rw [dpS]; rw [if_pos hm]
        rw [hm] at d2
        by_cases hz : passV (dpS b ρ i) i = -1
        · have eL : Hid (dpL b ρ (i + 1) = dpL b ρ i) := by show dpL b ρ (i + 1) = _; rw [dpL]; rw [if_neg (fun h => h.2 hz)]
          rw [hz] at CP
          clear hm hz
          go_wp2_with (first | (go_at_call 45; (with_reducible refine CP.mono ?_); rintro e w4 ⟨rfl, h4, b4⟩))
          go_roundw
          case rel => exact ⟨i + 1, by omega, by simp, by rw [eL.out]; exact hr.but b4 hlb, by rw [eS.out]; exact h4, hb'.trans b4⟩
          case measure =>
            simp [intOf]
            omega
        · have eL : Hid (dpL b ρ (i + 1) = dpL b ρ i ++ [passV (dpS b ρ i) i]) := by show dpL b ρ (i + 1) = _; rw [dpL]; rw [if_pos ⟨hm, hz⟩]
          have hz1 : (passV (dpS b ρ i) i == -1) = false := by simpa using hz
          clear hm
          generalize passS (dpS b ρ i) i = ρ2 at *
          generalize passV (dpS b ρ i) i = z at *
          generalize hLL : dpL b ρ i = L at *
          clear hLL
          go_wp2_with (first
            | (go_at_call 45; (with_reducible refine CP.mono ?_); rintro e w4 ⟨rfl, h4, b4⟩; have k4 := hr.but b4 hlb; have hR1 : RowI (w4.alloc (.cells #[.int .i64 z] 3)) w.heap.size (.slice va L.length vc) L := k4.below ((Below.refl _ w4).alloc (Nat.le_refl _) _); have hlow := fun k e => (k4.low k e).1; have hsz : w.heap.size ≤ (w4.alloc (.cells #[.int .i64 z] 3)).heap.size := by (have := b4.size; simp; omega))
            | (at_builtin; refine wpList_app1 rfl (.tmp 43) (.tmp 45) rfl w.heap.size _ L rfl hR1 _ _ z rfl (reads_one _ _) (by omega) hsz ?_; intro v5 w5 hr5 hg5 ha5))
          have h5 := h4.app hg5 (fun k e hk => by have := hlow k e; have := hlb k hk; omega)
          have b5 := hid_app (hb'.trans b4) hg5 hlow
          go_roundw
          case rel => exact ⟨i + 1, by omega, by simp, by rw [eL.out]; exact hr5, by rw [eS.out]; exact h5, b5⟩
          case measure =>
            simp [intOf]
            omega
      · have eS : Hid (dpS b ρ (i + 1) = dpS b ρ i) := by show dpS b ρ (i + 1) = _; rw [dpS]; rw [if_neg hm]
        have eL : Hid (dpL b ρ (i + 1) = dpL b ρ i) := by show dpL b ρ (i + 1) = _; rw [dpL]; rw [if_neg (fun h => hm h.1)]
        have hm' : (ow (dpS b ρ i) i == (b : Int)) = false := by simpa using hm
        generalize ow (dpS b ρ i) i = x at *
        go_wp2_with fail
        go_roundw
        case rel => exact ⟨i + 1, by omega, by simp, by rw [eL.out]; exact hr, by rw [eS.out]; exact hP, hb'⟩
        case measure =>
          simp [intOf]
          omega
    · obtain rfl : i = n := by omega
      go_wp2_with fail
      go_ret
      exact ⟨_, rfl, hr, hP, hb'⟩
end Go.Proofs.Ytimoleijdfoahaa.Lq
