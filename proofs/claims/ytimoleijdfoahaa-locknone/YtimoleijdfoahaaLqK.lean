/- What ask tells behind the steps of each call; Lock and Unlock. -/
import Derived.Test.YtimoleijdfoahaaLqC
import Derived.Test.YtimoleijdfoahaaLqP
namespace Go.Proofs.Ytimoleijdfoahaa.Lq
open Go Go.RowKit Go.Proofs.Ytimoleijdfoahaa.Bs Go.Proofs.Ytimoleijdfoahaa.Lo
open Go.Proofs.Ytimoleijdfoahaa.Lk (LQ Pl iv ints inN inN_of inN_out wI wI_nat whI_cases)
variable {w w' : World} {B o a n T : Nat} {P : Pl} {σ : St}

/-- Steps that lie in a slice of their own. -/
theorem ask_row (h : PM w B o a P n T σ) (fs : List (Value × Int)) (hl : fs.length ≤ 100) (hs : ∀ (j : Nat) (p : Value × Int), fs[j]? = some p → (∀ (i : Nat) (q : Value × Int), i < j → fs[i]? = some q → q.2 = 0) → Stp w p.1 p.2) (ty : TypeId) :
    Calls Try.prog 34 #[.pointer (some ⟨B, 0, none⟩), .slice (some ⟨w.heap.size, 0, none⟩) fs.length fs.length] (w.alloc (.cells (fs.map (·.1)).toArray ty)) fun e w' => e = .returned (.int .i64 (firstE fs)) ∧ But [] w w' := by
  have hb : But [] w (w.alloc (.cells (fs.map (·.1)).toArray ty)) := (But.refl [] w).alloc _
  have hh : (w.alloc (.cells (fs.map (·.1)).toArray ty)).heap[w.heap.size]? = some (.cells (fs.map (·.1)).toArray ty) := by
    show (w.heap.push _)[w.heap.size]? = _
    rw [Array.getElem?_push_size]
  have := ask_any (w := w.alloc (.cells (fs.map (·.1)).toArray ty)) (B := B) (G := w.heap.size) (c := fs.length) fs hl (fun X hX => made_any (h.keep (hb.trans hX))) (fun j p hp => by unfold World.cell?; rw [hh]; simp [hp]) (fun j p hp hz => (hs j p hp hz).later hb)
  exact this.mono fun e w' ⟨h1, h2⟩ => ⟨h1, hb.trans h2⟩
theorem ask1 (h : PM w B o a P n T σ) {v : Value} {e : Int} (s : Stp w v e) (ty : TypeId) :
    Calls Try.prog 34 #[.pointer (some ⟨B, 0, none⟩), .slice (some ⟨w.heap.size, 0, none⟩) 1 1] (w.alloc (.cells #[v] ty)) fun r w' => r = .returned (.int .i64 e) ∧ But [] w w' := by
  have := ask_row h [(v, e)] (by simp) (fun j p hp _ => by
    match j, hp with
    | 0, hp => cases hp; exact s) ty
  rw [show firstE [(v, e)] = e by unfold firstE firstE; dsimp only; split <;> simp [*]] at this
  exact this
theorem lockE_first (σ : St) (i t : Int) (v1 v2 v3 v4 : Value) : firstE [(v1, unl (inO σ i) 8), (v2, unl (inT σ t) 8), (v3, unl (wt σ t == -1) 5), (v4, unl (owI σ i != t) 5)] = lockE σ i t := by
  unfold lockE firstE unl
  cases inO σ i <;> cases inT σ t <;> simp [firstE]
  by_cases e1 : wt σ t = -1 <;> simp [e1]
theorem unlE_first (σ : St) (i t : Int) (v1 v2 v3 v4 : Value) : firstE [(v1, unl (inO σ i) 8), (v2, unl (inT σ t) 8), (v3, unl (wt σ t == -1) 5), (v4, unl (owI σ i == t) 6)] = unlE σ i t := by
  unfold unlE firstE unl
  cases inO σ i <;> cases inT σ t <;> simp [firstE]
  by_cases e1 : wt σ t = -1 <;> simp [e1]
theorem waitE_first (σ : St) (c i t : Int) (v0 v1 v2 v3 v4 : Value) : firstE [(v0, unl (inO σ c) 8), (v1, unl (inO σ i) 8), (v2, unl (inT σ t) 8), (v3, unl (wt σ t == -1) 5), (v4, unl (owI σ i == t) 6)] = waitE σ c i t := by
  have := unlE_first σ i t v1 v2 v3 v4
  unfold waitE
  rw [← this]
  unfold unl
  cases inO σ c <;> simp [firstE]
theorem in_of {σ : St} {i : Int} (e : unl (inO σ i) 8 = 0) : inO σ i = true := by
  cases h : inO σ i with
  | true => rfl
  | false => rw [h] at e; cases e
theorem lock_ask (h : PM w B o a P n T σ) {i t : Int} {v1 v2 v3 v4 : Value} (s1 : Stp w v1 (unl (inO σ i) 8)) (s2 : Stp w v2 (unl (inT σ t) 8)) (s3 : Stp w v3 (unl (wt σ t == -1) 5)) (s4 : inO σ i = true → Stp w v4 (unl (owI σ i != t) 5)) (ty : TypeId) :
    Calls Try.prog 34 #[.pointer (some ⟨B, 0, none⟩), .slice (some ⟨w.heap.size, 0, none⟩) 4 4] (w.alloc (.cells #[v1, v2, v3, v4] ty)) fun r w' => r = .returned (.int .i64 (lockE σ i t)) ∧ But [] w w' := by
  rw [← lockE_first σ i t v1 v2 v3 v4]
  refine ask_row h [(v1, unl (inO σ i) 8), (v2, unl (inT σ t) 8), (v3, unl (wt σ t == -1) 5), (v4, unl (owI σ i != t) 5)] (by simp) (fun j p hp hz => ?_) ty
  match j, hp with
  | 0, hp => cases hp; exact s1
  | 1, hp => cases hp; exact s2
  | 2, hp => cases hp; exact s3
  | 3, hp => cases hp; exact s4 (in_of (hz 0 _ (by omega) rfl))
theorem unl_ask (h : PM w B o a P n T σ) {i t : Int} {v1 v2 v3 v4 : Value} (s1 : Stp w v1 (unl (inO σ i) 8)) (s2 : Stp w v2 (unl (inT σ t) 8)) (s3 : Stp w v3 (unl (wt σ t == -1) 5)) (s4 : inO σ i = true → Stp w v4 (unl (owI σ i == t) 6)) (ty : TypeId) :
    Calls Try.prog 34 #[.pointer (some ⟨B, 0, none⟩), .slice (some ⟨w.heap.size, 0, none⟩) 4 4] (w.alloc (.cells #[v1, v2, v3, v4] ty)) fun r w' => r = .returned (.int .i64 (unlE σ i t)) ∧ But [] w w' := by
  rw [← unlE_first σ i t v1 v2 v3 v4]
  refine ask_row h [(v1, unl (inO σ i) 8), (v2, unl (inT σ t) 8), (v3, unl (wt σ t == -1) 5), (v4, unl (owI σ i == t) 6)] (by simp) (fun j p hp hz => ?_) ty
  match j, hp with
  | 0, hp => cases hp; exact s1
  | 1, hp => cases hp; exact s2
  | 2, hp => cases hp; exact s3
  | 3, hp => cases hp; exact s4 (in_of (hz 0 _ (by omega) rfl))
theorem wait_ask (h : PM w B o a P n T σ) {c i t : Int} {v0 v1 v2 v3 v4 : Value} (s0 : Stp w v0 (unl (inO σ c) 8)) (s1 : Stp w v1 (unl (inO σ i) 8)) (s2 : Stp w v2 (unl (inT σ t) 8)) (s3 : Stp w v3 (unl (wt σ t == -1) 5)) (s4 : inO σ i = true → Stp w v4 (unl (owI σ i == t) 6)) (ty : TypeId) :
    Calls Try.prog 34 #[.pointer (some ⟨B, 0, none⟩), .slice (some ⟨w.heap.size, 0, none⟩) 5 5] (w.alloc (.cells #[v0, v1, v2, v3, v4] ty)) fun r w' => r = .returned (.int .i64 (waitE σ c i t)) ∧ But [] w w' := by
  rw [← waitE_first σ c i t v0 v1 v2 v3 v4]
  refine ask_row h [(v0, unl (inO σ c) 8), (v1, unl (inO σ i) 8), (v2, unl (inT σ t) 8), (v3, unl (wt σ t == -1) 5), (v4, unl (owI σ i == t) 6)] (by simp) (fun j p hp hz => ?_) ty
  match j, hp with
  | 0, hp => cases hp; exact s0
  | 1, hp => cases hp; exact s1
  | 2, hp => cases hp; exact s2
  | 3, hp => cases hp; exact s3
  | 4, hp => cases hp; exact s4 (in_of (hz 1 _ (by omega) rfl))

theorem lock_any (h : PM w B o a P n T σ) (H : Ok n T σ) (i t : Int) :
    Calls Try.prog 17 #[.pointer (some ⟨B, 0, none⟩), .int .i64 i, .int .i64 t] w fun e w' => e = .returned (.tuple #[.bool (lockB σ i t), .int .i64 (lockE σ i t)]) ∧ PM w' B o a P n T (lockS σ i t) ∧ But (bl B o a P) w w' := by
  obtain ⟨ee, HE⟩ : ∃ ee, Hid (lockE σ i t = ee) := ⟨_, rfl⟩
  by_cases he : ee = 0
  · subst he
    obtain ⟨j, k, rfl, rfl, hj, hk, hw0, _⟩ := lockE_zero H HE.out
    have HB : Hid (lockB σ (j : Int) (k : Int) = decide (ow σ j = -1)) := show _ = _ by unfold lockB; rw [HE.out]; simp [owI]
    have HS : Hid (lockS σ (j : Int) (k : Int) = wantS σ j k) := show _ = _ by unfold lockS; rw [if_pos HE.out]; rfl
    have CG : ∀ X, PM X B o a P n T σ → _ := fun X hX => get_any (w := X) hX H hj hk (fun i q hq => H.none hw0 hq)
    clear hw0
    go_enter Try.func17, Try.ntmps17
    go_wp2_with (first
      | (go_at_call 35; (with_reducible refine (obj_any h H (j : Int)).mono ?_); rintro e w1 ⟨F1, A1, rfl, s1, b1⟩; have h1 := h.keep b1)
      | (go_at_call 39; (with_reducible refine (thr_any h1 H (k : Int)).mono ?_); rintro e w2 ⟨F2, A2, rfl, s2, b2⟩; have h2 := h1.keep b2)
      | (go_at_call 41; (with_reducible refine (goes_any h2 (k : Int)).mono ?_); rintro e w3 ⟨F3, A3, rfl, s3, b3⟩; have h3 := h2.keep b3)
      | (go_at_call 42; (with_reducible refine (not_any h3 H (j : Int) (k : Int)).mono ?_); rintro e w4 ⟨F4, A4, rfl, s4, b4⟩; have h4 := h3.keep b4; have CA := lock_ask h4 (((s1.later b2).later b3).later b4) ((s2.later b3).later b4) (s3.later b4) s4; rw [HE.out] at CA)
      | (go_at_call 34; (with_reducible refine (CA _).mono ?_); rintro e w5 ⟨rfl, b5⟩; have h5 := h4.keep b5)
      | (go_at_call 43; (with_reducible refine (CG _ h5).mono ?_); rintro e w6 ⟨rfl, h6, b6⟩))
    go_ret2
    exact ⟨by rw [HB.out, HE.out]; rfl, by rw [HS.out]; exact h6, (((((b1.trans b2).trans b3).trans b4).trans b5).wide).trans b6⟩
  · have HB : Hid (lockB σ i t = false) := show _ = _ by unfold lockB; rw [HE.out]; simp [he]
    have HS : Hid (lockS σ i t = σ) := show _ = _ by unfold lockS; rw [HE.out, if_neg he]
    have he' : (ee != 0) = true := by simpa using he
    clear he
    go_enter Try.func17, Try.ntmps17
    go_wp2_with (first
      | (go_at_call 35; (with_reducible refine (obj_any h H i).mono ?_); rintro e w1 ⟨F1, A1, rfl, s1, b1⟩; have h1 := h.keep b1)
      | (go_at_call 39; (with_reducible refine (thr_any h1 H t).mono ?_); rintro e w2 ⟨F2, A2, rfl, s2, b2⟩; have h2 := h1.keep b2)
      | (go_at_call 41; (with_reducible refine (goes_any h2 t).mono ?_); rintro e w3 ⟨F3, A3, rfl, s3, b3⟩; have h3 := h2.keep b3)
      | (go_at_call 42; (with_reducible refine (not_any h3 H i t).mono ?_); rintro e w4 ⟨F4, A4, rfl, s4, b4⟩; have h4 := h3.keep b4; have CA := lock_ask h4 (((s1.later b2).later b3).later b4) ((s2.later b3).later b4) (s3.later b4) s4; rw [HE.out] at CA)
      | (go_at_call 34; (with_reducible refine (CA _).mono ?_); rintro e w5 ⟨rfl, b5⟩; have h5 := h4.keep b5))
    go_ret2
    exact ⟨by rw [HB.out, HE.out]; rfl, by rw [HS.out]; exact h5, ((((b1.trans b2).trans b3).trans b4).trans b5).wide⟩
theorem unlock_any (h : PM w B o a P n T σ) (H : Ok n T σ) (i t : Int) :
    Calls Try.prog 18 #[.pointer (some ⟨B, 0, none⟩), .int .i64 i, .int .i64 t] w fun e w' => e = .returned (.tuple #[.int .i64 (unlV σ i t), .int .i64 (unlE σ i t)]) ∧ PM w' B o a P n T (unlS σ i t) ∧ But (bl B o a P) w w' := by
  obtain ⟨ee, HE⟩ : ∃ ee, Hid (unlE σ i t = ee) := ⟨_, rfl⟩
  by_cases he : ee = 0
  · subst he
    obtain ⟨j, k, rfl, rfl, hj, hk, hw0, _⟩ := unlE_zero H HE.out
    have HB : Hid (unlV σ (j : Int) (k : Int) = passV σ j) := show _ = _ by unfold unlV; rw [if_pos HE.out]; rfl
    have HS : Hid (unlS σ (j : Int) (k : Int) = passS σ j) := show _ = _ by unfold unlS; rw [if_pos HE.out]; rfl
    have CG : ∀ X, PM X B o a P n T σ → _ := fun X hX => pass_any (w := X) hX hj
    clear hw0
    go_enter Try.func18, Try.ntmps18
    go_wp2_with (first
      | (go_at_call 35; (with_reducible refine (obj_any h H (j : Int)).mono ?_); rintro e w1 ⟨F1, A1, rfl, s1, b1⟩; have h1 := h.keep b1)
      | (go_at_call 39; (with_reducible refine (thr_any h1 H (k : Int)).mono ?_); rintro e w2 ⟨F2, A2, rfl, s2, b2⟩; have h2 := h1.keep b2)
      | (go_at_call 41; (with_reducible refine (goes_any h2 (k : Int)).mono ?_); rintro e w3 ⟨F3, A3, rfl, s3, b3⟩; have h3 := h2.keep b3)
      | (go_at_call 44; (with_reducible refine (has_any h3 H (j : Int) (k : Int)).mono ?_); rintro e w4 ⟨F4, A4, rfl, s4, b4⟩; have h4 := h3.keep b4; have CA := unl_ask h4 (((s1.later b2).later b3).later b4) ((s2.later b3).later b4) (s3.later b4) s4; rw [HE.out] at CA)
      | (go_at_call 34; (with_reducible refine (CA _).mono ?_); rintro e w5 ⟨rfl, b5⟩; have h5 := h4.keep b5)
      | (go_at_call 45; (with_reducible refine (CG _ h5).mono ?_); rintro e w6 ⟨rfl, h6, b6⟩))
    go_ret2
    exact ⟨by rw [HB.out, HE.out]; rfl, by rw [HS.out]; exact h6, (((((b1.trans b2).trans b3).trans b4).trans b5).wide).trans b6⟩
  · have HB : Hid (unlV σ i t = -1) := show _ = _ by unfold unlV; rw [HE.out, if_neg he]
    have HS : Hid (unlS σ i t = σ) := show _ = _ by unfold unlS; rw [HE.out, if_neg he]
    have he' : (ee != 0) = true := by simpa using he
    clear he
    go_enter Try.func18, Try.ntmps18
    go_wp2_with (first
      | (go_at_call 35; (with_reducible refine (obj_any h H i).mono ?_); rintro e w1 ⟨F1, A1, rfl, s1, b1⟩; have h1 := h.keep b1)
      | (go_at_call 39; (with_reducible refine (thr_any h1 H t).mono ?_); rintro e w2 ⟨F2, A2, rfl, s2, b2⟩; have h2 := h1.keep b2)
      | (go_at_call 41; (with_reducible refine (goes_any h2 t).mono ?_); rintro e w3 ⟨F3, A3, rfl, s3, b3⟩; have h3 := h2.keep b3)
      | (go_at_call 44; (with_reducible refine (has_any h3 H i t).mono ?_); rintro e w4 ⟨F4, A4, rfl, s4, b4⟩; have h4 := h3.keep b4; have CA := unl_ask h4 (((s1.later b2).later b3).later b4) ((s2.later b3).later b4) (s3.later b4) s4; rw [HE.out] at CA)
      | (go_at_call 34; (with_reducible refine (CA _).mono ?_); rintro e w5 ⟨rfl, b5⟩; have h5 := h4.keep b5))
    go_ret2
    exact ⟨by rw [HB.out, HE.out]; rfl, by rw [HS.out]; exact h5, ((((b1.trans b2).trans b3).trans b4).trans b5).wide⟩
end Go.Proofs.Ytimoleijdfoahaa.Lq
