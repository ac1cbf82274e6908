/- What holds of locks and conditions holds behind each call. -/
import Derived.Test.YtimoleijdfoahaaLoM
namespace Go.Proofs.Ytimoleijdfoahaa.Lo
open Go Go.RowKit Go.Proofs.Ytimoleijdfoahaa.Bs
open Go.Proofs.Ytimoleijdfoahaa.Lk (inN inN_of inN_out wI lsI wI_nat whI whI_none whI_some whI_cases)

section
variable {σ : St} {n T : Nat}
theorem W_set (h : Ok n T σ) {own : List Int} {ag : List Nat} {i o : Nat} {q : List Nat} (hi : i < n + n) : W ⟨own, σ.ls.set i q, ag⟩ o = if o = i then q else W σ o := by
  unfold W
  exact getD_set (by rw [h.ls.len]; exact hi)
theorem S_set (h : Ok n T σ) {own : List Int} {ag : List Nat} {i c : Nat} {q : List Nat} (hi : i < n + n) (ho : own.length = n) : S ⟨own, σ.ls.set i q, ag⟩ c = if n + c = i then q else S σ c := by
  unfold S
  dsimp only
  rw [ho, h.ol]
  exact getD_set (by rw [h.ls.len]; exact hi)
theorem ow_set (h : Ok n T σ) {ls : List (List Nat)} {ag : List Nat} {i o : Nat} {x : Int} (hi : i < n) : ow ⟨σ.own.set i x, ls, ag⟩ o = if o = i then x else ow σ o := by
  unfold ow
  exact getD_set (by rw [h.ol]; exact hi)
/-- A thread that waits for nothing, put behind a list's. -/
theorem Ok.push (h : Ok n T σ) {i t : Nat} {q : List Nat} (hq : σ.ls[i]? = some q) (ht : t < T) (hw : wt σ (t : Int) = -1) : Lk.Ok T (n + n) (σ.ls.set i (q ++ [t])) := by
  refine h.ls.set (fun x hx => ?_) ?_ (fun j p hp hj x hx => ?_)
  · rcases List.mem_append.1 hx with hx | hx
    · exact h.ls.lt i q hq x hx
    · rw [List.mem_singleton.1 hx]
      exact ht
  · rw [List.nodup_append]
    refine ⟨h.ls.nd i q hq, by simp, fun a ha b hb e => ?_⟩
    rw [List.mem_singleton.1 hb] at e
    exact h.none hw hq (e ▸ ha)
  · rcases List.mem_append.1 hx with hx | hx
    · exact h.ls.dj i j q p hq hp (fun e => hj e.symm) x hx
    · rw [List.mem_singleton.1 hx]
      exact h.none hw hp
/-- A list without its first one, or without others. -/
theorem Ok.less (h : Ok n T σ) {i : Nat} {q r : List Nat} (hq : σ.ls[i]? = some q) (hr : r.Sublist q) : Lk.Ok T (n + n) (σ.ls.set i r) :=
  h.ls.set (fun x hx => h.ls.lt i q hq x (hr.mem hx)) ((h.ls.nd i q hq).sublist hr) (fun j p hp hj x hx => h.ls.dj i j q p hq hp (fun e => hj e.symm) x (hr.mem hx))
theorem Ok.want (h : Ok n T σ) {o t : Nat} (ho : o < n) (ht : t < T) (hw : wt σ (t : Int) = -1) (hne : ow σ o ≠ (t : Int)) : Ok n T (wantS σ o t) := by
  unfold wantS
  by_cases e : ow σ o = -1
  · rw [if_pos e]
    have hO : ∀ k, ow ⟨σ.own.set o (t : Int), σ.ls, σ.ag⟩ k = if k = o then (t : Int) else ow σ k := fun k => ow_set h ho
    refine ⟨h.n1, h.n2, h.t1, h.t2, by simpa using h.ol, h.al, h.ls, fun k hk => ?_, fun k hk hf => ?_, fun k hk x hx => ?_, fun c hc x hx => ?_⟩
    · rw [hO]
      split
      · omega
      · exact h.own k hk
    · rw [hO] at hf
      split at hf
      · omega
      · exact h.free k hk hf
    · rw [hO]
      split
      · next e2 =>
        subst e2
        have hx' : x ∈ W σ k := hx
        rw [h.free k hk e] at hx'
        cases hx'
      · exact h.mine k hk x hx
    · have hx' : x ∈ S σ c := by
        unfold S at hx ⊢
        dsimp only at hx
        rw [List.length_set] at hx
        exact hx
      obtain ⟨a1, a2⟩ := h.again c hc x hx'
      refine ⟨a1, ?_⟩
      rw [hO]
      split
      · intro e3
        have : x = t := by omega
        exact h.none hw (h.s hc) (this ▸ hx')
      · exact a2
  · rw [if_neg e]
    have hl := h.push (h.w ho) ht hw
    have hW : ∀ k, W ⟨σ.own, σ.ls.set o (W σ o ++ [t]), σ.ag⟩ k = if k = o then W σ o ++ [t] else W σ k := fun k => W_set h (by omega)
    have hS : ∀ k, k < n → S ⟨σ.own, σ.ls.set o (W σ o ++ [t]), σ.ag⟩ k = S σ k := fun k hk => by
      rw [S_set h (by omega) h.ol, if_neg (by omega)]
    refine ⟨h.n1, h.n2, h.t1, h.t2, h.ol, h.al, hl, h.own, fun k hk hf => ?_, fun k hk x hx => ?_, fun c hc x hx => ?_⟩
    · rw [hW]
      split
      · next e2 =>
        subst e2
        exact absurd hf e
      · exact h.free k hk hf
    · rw [hW] at hx
      split at hx
      · next e2 =>
        subst e2
        rcases List.mem_append.1 hx with hx | hx
        · exact h.mine k hk x hx
        · rw [List.mem_singleton.1 hx]
          exact fun e3 => hne e3.symm
      · exact h.mine k hk x hx
    · rw [hS c hc] at hx
      exact h.again c hc x hx
theorem headV_mem {q : List Nat} (h : headV q ≠ -1) : ∃ t r, q = t :: r ∧ headV q = (t : Int) := by
  cases q with
  | nil => exact absurd rfl h
  | cons t r => exact ⟨t, r, rfl, rfl⟩
theorem Ok.pass (h : Ok n T σ) {o : Nat} (ho : o < n) : Ok n T (passS σ o) := by
  have hO : ∀ k, ow (passS σ o) k = if k = o then passV σ o else ow σ k := fun k => ow_set h ho
  have hW : ∀ k, W (passS σ o) k = if k = o then (W σ o).tail else W σ k := fun k => W_set h (by omega)
  have hS : ∀ k, k < n → S (passS σ o) k = S σ k := fun k hk => by
    unfold passS
    rw [S_set h (by omega) (by simpa using h.ol), if_neg (by omega)]
  have hnd := h.ls.nd _ _ (h.w ho)
  refine ⟨h.n1, h.n2, h.t1, h.t2, by simpa [passS] using h.ol, h.al, h.less (h.w ho) (List.tail_sublist _), fun k hk => ?_, fun k hk hf => ?_, fun k hk x hx => ?_, fun c hc x hx => ?_⟩
  · rw [hO]
    split
    · unfold passV
      by_cases e : headV (W σ o) = -1
      · omega
      · obtain ⟨t, r, e1, e2⟩ := headV_mem e
        have := h.wlt ho (t := t) (by rw [e1]; simp)
        omega
    · exact h.own k hk
  · rw [hO] at hf
    rw [hW]
    split
    · next e =>
      rw [if_pos e] at hf
      unfold passV at hf
      cases hq : W σ o with
      | nil => rfl
      | cons t r =>
        rw [hq, show headV (t :: r) = (t : Int) from rfl] at hf
        omega
    · next e =>
      rw [if_neg e] at hf
      exact h.free k hk hf
  · rw [hO]
    rw [hW] at hx
    split
    · next e =>
      rw [if_pos e] at hx
      unfold passV
      cases hq : W σ o with
      | nil =>
        rw [hq] at hx
        cases hx
      | cons t r =>
        rw [hq] at hx hnd
        rw [show headV (t :: r) = (t : Int) from rfl]
        intro e3
        have : x = t := by omega
        exact (List.nodup_cons.1 hnd).1 (this ▸ hx)
    · next e =>
      rw [if_neg e] at hx
      exact h.mine k hk x hx
  · rw [hS c hc] at hx
    obtain ⟨a1, a2⟩ := h.again c hc x hx
    refine ⟨a1, ?_⟩
    rw [hO]
    split
    · intro e3
      unfold passV at e3
      obtain ⟨t, r, e1, e2⟩ := headV_mem (q := W σ o) (by omega)
      have : x = t := by omega
      have hm : x ∈ W σ o := by rw [e1, this]; simp
      exact h.apart (h.w ho) (h.s hc) hm (by omega) hx
    · exact a2
theorem Ok.slp (h : Ok n T σ) {c o t : Nat} (hc : c < n) (ho : o < n) (ht : t < T) (hw : wt σ (t : Int) = -1) (hne : ow σ o ≠ (t : Int)) : Ok n T (slp σ c o t) := by
  have hlen := h.ol
  have hW : ∀ k, k < n → W (Lo.slp σ c o t) k = W σ k := fun k hk => by
    unfold Lo.slp
    rw [W_set h (by omega), if_neg (by omega)]
  have hS : ∀ k, S (Lo.slp σ c o t) k = if k = c then S σ c ++ [t] else S σ k := fun k => by
    unfold Lo.slp
    rw [S_set h (by omega) h.ol, hlen]
    by_cases e : k = c
    · rw [if_pos (by omega), if_pos e]
    · rw [if_neg (by omega), if_neg e]
  have hA : ∀ k, agN (Lo.slp σ c o t) k = if k = t then o else agN σ k := fun k => by
    unfold Lo.slp agN
    exact getD_set (by rw [h.al]; exact ht)
  have hl : Lk.Ok T (n + n) (σ.ls.set (n + c) (S σ c ++ [t])) := h.push (h.s hc) ht hw
  refine ⟨h.n1, h.n2, h.t1, h.t2, h.ol, by simpa [Lo.slp] using h.al, by unfold Lo.slp; rw [hlen]; exact hl, h.own, fun k hk hf => ?_, fun k hk x hx => ?_, fun k hk x hx => ?_⟩
  · rw [hW k hk]
    exact h.free k hk hf
  · rw [hW k hk] at hx
    exact h.mine k hk x hx
  · rw [hS] at hx
    rw [hA]
    show (if x = t then o else agN σ x) < n ∧ ow σ (if x = t then o else agN σ x) ≠ (x : Int)
    split at hx
    · next e =>
      subst e
      rcases List.mem_append.1 hx with hx | hx
      · have hxt : x ≠ t := fun e => h.none hw (h.s hk) (e ▸ hx)
        rw [if_neg hxt]
        exact h.again k hk x hx
      · rw [List.mem_singleton.1 hx, if_pos rfl]
        exact ⟨ho, hne⟩
    · have hxt : x ≠ t := fun e => h.none hw (h.s hk) (e ▸ hx)
      rw [if_neg hxt]
      exact h.again k hk x hx
theorem Ok.popC (h : Ok n T σ) {c : Nat} (hc : c < n) : Ok n T (popC σ c) := by
  have hlen := h.ol
  have hW : ∀ k, k < n → W (Lo.popC σ c) k = W σ k := fun k hk => by
    unfold Lo.popC
    rw [W_set h (by omega), if_neg (by omega)]
  have hS : ∀ k, S (Lo.popC σ c) k = if k = c then (S σ c).tail else S σ k := fun k => by
    unfold Lo.popC
    rw [S_set h (by omega) h.ol, hlen]
    by_cases e : k = c
    · rw [if_pos (by omega), if_pos e]
    · rw [if_neg (by omega), if_neg e]
  refine ⟨h.n1, h.n2, h.t1, h.t2, h.ol, h.al, by unfold Lo.popC; rw [hlen]; exact h.less (h.s hc) (List.tail_sublist _), h.own, fun k hk hf => ?_, fun k hk x hx => ?_, fun k hk x hx => ?_⟩
  · rw [hW k hk]
    exact h.free k hk hf
  · rw [hW k hk] at hx
    exact h.mine k hk x hx
  · refine h.again k hk x ?_
    rw [hS] at hx
    split at hx
    · next e =>
      subst e
      exact List.mem_of_mem_tail hx
    · exact hx
/-- Who was taken out of a list stands in none. -/
theorem Ok.popped (h : Ok n T σ) {c t : Nat} {r : List Nat} (hc : c < n) (hq : S σ c = t :: r) : wt (Lo.popC σ c) (t : Int) = -1 := by
  unfold wt
  rw [wI_nat]
  refine whI_none fun i q hi hm => ?_
  have h' := h.popC hc
  have hnd := h.ls.nd _ _ (h.s hc)
  have hlen := h.ol
  have hi' : (σ.ls.set (n + c) (S σ c).tail)[i]? = some q := by
    have : (Lo.popC σ c).ls = σ.ls.set (n + c) (S σ c).tail := by unfold Lo.popC; rw [hlen]
    rw [← this]
    exact hi
  rcases Lk.get_set hi' with ⟨rfl, rfl⟩ | ⟨hne, hj⟩
  · rw [hq] at hm hnd
    exact (List.nodup_cons.1 hnd).1 hm
  · exact h.ls.dj (n + c) i _ q (h.s hc) hj (fun e => hne e.symm) t (by rw [hq]; simp) hm
theorem Ok.sg (h : Ok n T σ) {c : Nat} (hc : c < n) : Ok n T (sgS σ c) := by
  unfold sgS
  cases hq : S σ c with
  | nil => exact h
  | cons t r =>
    have ht : t ∈ S σ c := by rw [hq]; simp
    obtain ⟨a1, a2⟩ := h.again c hc t ht
    exact (h.popC hc).want a1 (h.slt hc ht) (h.popped hc hq) a2
theorem Ok.cast (c : Nat) (hc : c < n) : ∀ (k : Nat) {σ : St}, Ok n T σ → Ok n T (castK c k σ).2
  | 0, _, h => h
  | k + 1, _, h => Ok.cast c hc k (h.sg hc)
theorem outL_sub (t : Nat) (q : List Nat) : (outL t q).Sublist q := List.filter_sublist
theorem outL_mem {t x : Nat} {q : List Nat} : x ∈ outL t q ↔ x ∈ q ∧ x ≠ t := by
  unfold outL
  rw [List.mem_filter]
  simp
theorem Ok.rm (h : Ok n T σ) (t : Nat) : Ok n T (rm σ t) := by
  have hW : ∀ k, W (Lo.rm σ t) k = outL t (W σ k) := fun k => getD_map rfl
  have hS : ∀ k, S (Lo.rm σ t) k = outL t (S σ k) := fun k => getD_map rfl
  have hg : ∀ {i : Nat} {q : List Nat}, (σ.ls.map (outL t))[i]? = some q → ∃ p, σ.ls[i]? = some p ∧ q = outL t p := fun {i q} hq => by
    rw [List.getElem?_map] at hq
    obtain ⟨p, hp, e⟩ := Option.map_eq_some_iff.1 hq
    exact ⟨p, hp, e.symm⟩
  refine ⟨h.n1, h.n2, h.t1, h.t2, h.ol, h.al, ⟨by simpa [Lo.rm] using h.ls.len, fun i q hq x hx => ?_, fun i q hq => ?_, fun i j p q hp hq hij x hx hy => ?_⟩, h.own, fun k hk hf => ?_, fun k hk x hx => ?_, fun k hk x hx => ?_⟩
  · obtain ⟨p, hp, rfl⟩ := hg hq
    exact h.ls.lt i p hp x (outL_mem.1 hx).1
  · obtain ⟨p, hp, rfl⟩ := hg hq
    exact (h.ls.nd i p hp).sublist (outL_sub _ _)
  · obtain ⟨p', hp', rfl⟩ := hg hp
    obtain ⟨q', hq', rfl⟩ := hg hq
    exact h.ls.dj i j p' q' hp' hq' hij x (outL_mem.1 hx).1 (outL_mem.1 hy).1
  · rw [hW, h.free k hk hf]
    rfl
  · rw [hW] at hx
    exact h.mine k hk x (outL_mem.1 hx).1
  · rw [hS] at hx
    exact h.again k hk x (outL_mem.1 hx).1
theorem Ok.dp (t : Nat) (h : Ok n T σ) : ∀ j, j ≤ n → Ok n T (dpS t σ j)
  | 0, _ => h
  | j + 1, hj => by
    have ih := Ok.dp t h j (by omega)
    unfold dpS
    split
    · exact ih.pass (by omega)
    · exact ih

theorem inO_out (h : Ok n T σ) {o : Int} (ho : inO σ o = true) : ∃ k : Nat, o = k ∧ k < n := by
  have := inN_out ho
  rw [h.ol] at this
  exact this
theorem inT_out (h : Ok n T σ) {t : Int} (ht : inT σ t = true) : ∃ k : Nat, t = k ∧ k < T := by
  have := inN_out ht
  rw [h.al] at this
  exact this
theorem lockE_zero (h : Ok n T σ) {o t : Int} (he : lockE σ o t = 0) : ∃ a b : Nat, o = a ∧ t = b ∧ a < n ∧ b < T ∧ wt σ (b : Int) = -1 ∧ ow σ a ≠ (b : Int) := by
  unfold lockE at he
  split at he
  · omega
  next h1 =>
  split at he
  · omega
  next h2 =>
  split at he
  · omega
  next h3 =>
  cases ha : inO σ o with
  | false => simp [ha] at h1
  | true =>
    cases hb : inT σ t with
    | false => simp [ha, hb] at h1
    | true =>
      obtain ⟨a, rfl, ha'⟩ := inO_out h ha
      obtain ⟨b, rfl, hb'⟩ := inT_out h hb
      exact ⟨a, b, rfl, rfl, ha', hb', Decidable.not_not.1 h2, by unfold owI at h3; simpa using h3⟩
theorem unlE_zero (h : Ok n T σ) {o t : Int} (he : unlE σ o t = 0) : ∃ a b : Nat, o = a ∧ t = b ∧ a < n ∧ b < T ∧ wt σ (b : Int) = -1 ∧ ow σ a = (b : Int) := by
  unfold unlE at he
  split at he
  · omega
  next h1 =>
  split at he
  · omega
  next h2 =>
  split at he
  · omega
  next h3 =>
  cases ha : inO σ o with
  | false => simp [ha] at h1
  | true =>
    cases hb : inT σ t with
    | false => simp [ha, hb] at h1
    | true =>
      obtain ⟨a, rfl, ha'⟩ := inO_out h ha
      obtain ⟨b, rfl, hb'⟩ := inT_out h hb
      exact ⟨a, b, rfl, rfl, ha', hb', Decidable.not_not.1 h2, by unfold owI at h3; simpa using Decidable.not_not.1 h3⟩
theorem Ok.lock (h : Ok n T σ) (o t : Int) : Ok n T (lockS σ o t) := by
  unfold lockS
  split
  · next e =>
    obtain ⟨a, b, rfl, rfl, h1, h2, h3, h4⟩ := lockE_zero h e
    exact h.want h1 h2 h3 h4
  · exact h
theorem Ok.unl (h : Ok n T σ) (o t : Int) : Ok n T (unlS σ o t) := by
  unfold unlS
  split
  · next e =>
    obtain ⟨a, b, rfl, rfl, h1, h2, h3, h4⟩ := unlE_zero h e
    exact h.pass h1
  · exact h
/-- A lock that a thread has goes to another one; it waits for nothing then, either. -/
theorem Ok.passed (h : Ok n T σ) {o t : Nat} (ho : o < n) (hw : wt σ (t : Int) = -1) : wt (passS σ o) (t : Int) = -1 ∧ (∀ u ∈ W σ o, u ≠ t) := by
  have hn : ∀ u ∈ W σ o, u ≠ t := fun u hu e => h.none hw (h.w ho) (e ▸ hu)
  refine ⟨?_, hn⟩
  unfold wt
  rw [wI_nat]
  refine whI_none fun i q hi hm => ?_
  have hi' : (σ.ls.set o (W σ o).tail)[i]? = some q := hi
  rcases Lk.get_set hi' with ⟨rfl, rfl⟩ | ⟨_, hj⟩
  · exact hn t (List.mem_of_mem_tail hm) rfl
  · exact h.none hw hj hm
theorem Ok.wait (h : Ok n T σ) (c o t : Int) : Ok n T (waitS σ c o t) := by
  unfold waitS
  split
  · next e =>
    unfold waitE at e
    split at e
    · omega
    next hc =>
    obtain ⟨k, rfl, hk⟩ := inO_out h (by simpa using hc)
    obtain ⟨a, b, rfl, rfl, h1, h2, h3, h4⟩ := unlE_zero h e
    obtain ⟨p1, p2⟩ := h.passed h1 h3
    refine (h.pass h1).slp hk h1 h2 p1 ?_
    show ow (passS σ a) a ≠ (b : Int)
    have : ow (passS σ a) a = passV σ a := by
      unfold passS
      rw [ow_set h h1, if_pos rfl]
    rw [this]
    unfold passV
    intro e2
    obtain ⟨u, r, e3, e4⟩ := headV_mem (q := W σ a) (by omega)
    exact p2 u (by rw [e3]; simp) (by omega)
  · exact h
theorem Ok.sig (h : Ok n T σ) (c : Int) : Ok n T (sigS σ c) := by
  unfold sigS
  split
  · next e =>
    obtain ⟨k, rfl, hk⟩ := inO_out h e
    exact h.sg hk
  · exact h
theorem Ok.casts (h : Ok n T σ) (c : Int) : Ok n T (castS σ c) := by
  unfold castS
  split
  · next e =>
    obtain ⟨k, rfl, hk⟩ := inO_out h e
    exact Ok.cast k hk _ h
  · exact h
theorem Ok.drop (h : Ok n T σ) (t : Int) : Ok n T (dropS σ t) := by
  unfold dropS
  split
  · rw [h.ol]
    exact (h.rm t.toNat).dp t.toNat n (Nat.le_refl _)
  · exact h
end
end Go.Proofs.Ytimoleijdfoahaa.Lo
