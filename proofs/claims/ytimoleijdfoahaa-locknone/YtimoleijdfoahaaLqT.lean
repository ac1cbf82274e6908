/- Cast. -/
import Derived.Test.YtimoleijdfoahaaLqS
namespace Go.Proofs.Ytimoleijdfoahaa.Lq
open Go Go.RowKit Go.Proofs.Ytimoleijdfoahaa.Bs Go.Proofs.Ytimoleijdfoahaa.Lo
open Go.Proofs.Ytimoleijdfoahaa.Lk (LQ Pl iv ints inN inN_of inN_out wI wI_nat whI_cases push_any len_any lsI lsI_nat)
variable {w w' : World} {B o a n T : Nat} {P : Pl} {σ : St}

/-- An append to a row that is none of theirs. -/
theorem PM.app {w2 w3 : World} (h : PM w2 B o a P n T σ) {ob : Obj} {v : Value} (hg : (w2.alloc ob).grownBy w3 v.ownBlock) (hv : ∀ k, v.ownBlock = some k → k ∉ bl B o a P) : PM w3 B o a P n T σ :=
  (h.keep ((But.refl [] w2).alloc ob)).but (S' := v.ownBlock.toList) ⟨hg.os, hg.tape, hg.output, hg.size, fun k hk hs => hg.block k hk (fun e => hs (by rw [← e]; simp))⟩ (fun x hx hy => hv x (by simpa using hy) hx)
theorem hid_app {w2 w3 : World} {S' : List Nat} (h : But S' w w2) {ob : Obj} {v : Value} (hg : (w2.alloc ob).grownBy w3 v.ownBlock) (hv : ∀ k, v.ownBlock = some k → w.heap.size ≤ k) : But S' w w3 := (h.alloc ob).grown hg hv
set_option maxRecDepth 100000
set_option maxHeartbeats 4000000 in
theorem cast_any (h : PM w B o a P n T σ) (H : Ok n T σ) (c : Int) :
    Calls Try.prog 20 #[.pointer (some ⟨B, 0, none⟩), .int .i64 c] w fun e w' => ∃ v, e = .returned (.tuple #[v, .int .i64 (sigE σ c)]) ∧ RowI w' w.heap.size v (castL σ c) ∧ PM w' B o a P n T (castS σ c) ∧ But (bl B o a P) w w' := by
  have CO := obj_any h H c
  have R0 : ∀ X, RowI X w.heap.size (.slice none 0 0) [] := fun X => ⟨by simp, .inl ⟨rfl, rfl⟩⟩
  have hlt := h.lt
  unfold sigE castL castS
  cases hC : inO σ c
  · rw [hC] at CO
    simp only [Bool.false_eq_true, if_false]
    go_enter Try.func20, Try.ntmps20
    go_wp2_with (first
      | (go_at_call 35; (with_reducible refine CO.mono ?_); rintro e w1 ⟨F1, A1, rfl, s1, b1⟩; have h1 := h.keep b1; have CA := ask1 h1 s1; unfold unl at CA; simp only [Bool.false_eq_true, if_false] at CA)
      | (go_at_call 34; (with_reducible refine (CA _).mono ?_); rintro e w2 ⟨rfl, b2⟩; have h2 := h1.keep b2))
    go_ret2
    exact ⟨_, rfl, R0 _, h2, (b1.trans b2).wide⟩
  rw [hC] at CO
  simp only [if_true]
  obtain ⟨cc, rfl, hcc⟩ := inO_out H hC
  rw [Int.toNat_natCast]
  obtain ⟨CA0, hCA⟩ : ∃ CA0, Hid (castK cc (S σ cc).length σ = CA0) := ⟨_, rfl⟩
  rw [hCA.out]
  have hC0 : castA cc σ = CA0 := hCA.out
  have hl0 := H.slen hcc
  have n2 := H.n2
  have CS : ∀ X, PM X B o a P n T σ → _ := fun X hX => sleepers_any (w := X) hX n2 hcc
  have CL : ∀ X, PM X B o a P n T σ → Calls Try.prog 47 #[.pointer (some ⟨P.B, 0, none⟩), .int .i64 ((n : Int) + (cc : Int))] X fun e w' => e = .returned (.int .i64 (S σ cc).length) ∧ w' = X := fun X hX => by
    have := len_any hX.q ((n + cc : Nat) : Int)
    rw [lsI_nat, show σ.ls.getD (n + cc) [] = S σ cc by unfold S; rw [H.ol], Int.natCast_add] at this
    exact this
  clear hCA hC
  obtain ⟨m, hm⟩ : ∃ m, (S σ cc).length = m := ⟨_, rfl⟩
  rw [hm] at CL hl0
  replace hm := Hid.mk hm
  go_enter Try.func20, Try.ntmps20
  go_wp2_with (first
    | (go_at_call 35; (with_reducible refine CO.mono ?_); rintro e w1 ⟨F1, A1, rfl, s1, b1⟩; have h1 := h.keep b1; have CA := ask1 h1 s1; unfold unl at CA; simp only [if_true] at CA)
    | (go_at_call 34; (with_reducible refine (CA _).mono ?_); rintro e w2 ⟨rfl, b2⟩; have h2 := h1.keep b2; have c2 := h2.c2; have hd := h2.keep ((But.refl [] _).drew); have bd := (b1.trans b2).drew; have hsd' := hd.c2))
  go_region_held3 (fun w' => w'.cell? ⟨B, 2, none⟩ = some (.pointer (some ⟨P.B, 0, none⟩))) (first | with_reducible assumption | with_reducible exact hsd') (first
    | (go_at_call 38; (with_reducible refine (CS _ hd).mono ?_); rintro e w' ⟨rfl, hw⟩; subst w')
    | (go_at_call 47; (with_reducible refine (CL _ hd).mono ?_); rintro e w' ⟨rfl, hw⟩; subst w'))
  all_goals
    clear CO CS CL
    go_wp2_with fail
    go_loopw [26, 7, 8] (fun v tl _ wr => ∃ (i : Nat) (τ : St) (L : List Int), v = .int .i64 i ∧ RowI wr w.heap.size tl L ∧ PM wr B o a P n T τ ∧ Ok n T τ ∧ But (bl B o a P) w wr ∧ CA0 = (L ++ (castA cc τ).1, (castA cc τ).2) ∧ i + (S τ cc).length = m ∧ L.length ≤ i) (fun v _ _ _ => 1024 - (intOf v).toNat)
    case atStart => exact ⟨0, σ, [], rfl, R0 _, hd, H, bd.wide, by rw [hC0]; simp, by rw [hm.out]; omega, by simp⟩
    case round =>
      clear hd h2 h1 hsd' bd hC0 c2
      obtain ⟨i, τ, L, rfl, hr, hP, hok, hb, hE, hl, hl2⟩ := hrel
      obtain ⟨va, vc, rfl⟩ := own_shape hr
      have CW := wake_any hP hok hcc
      have hbs := hb.size
      cases hq : S τ cc with
      | nil =>
        rw [castA_nil hq, List.append_nil] at hE
        rw [hq, show ([] : List Nat).length = 0 from rfl] at hl
        have hge : ¬ (i : Int) < (m : Int) := by omega
        replace hE := Hid.mk hE
        replace hl := Hid.mk hl
        go_wp2_with fail
        go_ret2
        exact ⟨_, rfl, by rw [hE.out]; exact hr, by rw [hE.out]; exact hP, hb⟩
      | cons t r =>
        have hS := S_sg hok hcc hq
        have hok2 := hok.sg hcc
        rw [castA_cons hok hcc hq] at hE
        rw [hq, List.length_cons] at hl
        have hlt' : (i : Int) < (m : Int) := by omega
        have him : i < 1024 := by omega
        replace hl := Hid.mk hl
        by_cases hz : sgV τ cc = -1
        · rw [if_pos hz] at hE
          rw [hz] at CW
          replace hE := Hid.mk hE
          clear hz
          go_wp2_with (first | (go_at_call 48; (with_reducible refine CW.mono ?_); rintro e w4 ⟨rfl, h4, b4⟩))
          go_roundw
          case rel => exact ⟨i + 1, _, L, by simp, hr.but b4 hlt, h4, hok2, hb.trans b4, hE.out, by rw [hS]; have := hl.out; omega, by omega⟩
          case measure =>
            simp [intOf]
            omega
        · rw [if_neg hz] at hE
          have hz1 : (sgV τ cc == -1) = false := by simpa using hz
          replace hE := Hid.mk hE
          generalize sgV τ cc = z at *
          go_wp2_with (first
            | (go_at_call 48; (with_reducible refine CW.mono ?_); rintro e w4 ⟨rfl, h4, b4⟩; have k4 := hr.but b4 hlt; have hR1 : RowI (w4.alloc (.cells #[.int .i64 z] 3)) w.heap.size (.slice va L.length vc) L := k4.below ((Below.refl _ w4).alloc (Nat.le_refl _) _); have hlow := fun k e => (k4.low k e).1; have hsz : w.heap.size ≤ (w4.alloc (.cells #[.int .i64 z] 3)).heap.size := by (have := b4.size; simp; omega))
            | (at_builtin; refine wpList_app1 rfl (.tmp 33) (.tmp 35) rfl w.heap.size _ L rfl hR1 _ _ z rfl (reads_one _ _) (by omega) hsz ?_; intro v3 w3 hr3 hg3 ha3))
          have h5 := h4.app hg3 (fun k e hk => by have := hlow k e; have := hlt k hk; omega)
          have b5 := hid_app (hb.trans b4) hg3 hlow
          go_roundw
          case rel => exact ⟨i + 1, _, L ++ [z], by simp, hr3, h5, hok2, b5, by rw [hE.out]; simp, by rw [hS]; have := hl.out; omega, by simp; omega⟩
          case measure =>
            simp [intOf]
            omega
end Go.Proofs.Ytimoleijdfoahaa.Lq
