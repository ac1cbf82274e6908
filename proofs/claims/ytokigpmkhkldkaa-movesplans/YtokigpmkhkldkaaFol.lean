/- What follows of the plan: behind it each space has its target; no core moves twice, nor one that need not. -/
import Derived.Test.YtokigpmkhkldkaaMov
namespace Go.Proofs.Ytokigpmkhkldkaa

/-- How many of these cores are the space's, how many are some space's; how many of these places are the space's. -/
def nf (os : List Int) (s : Int) : List Nat → Nat
  | [] => 0
  | c :: cs => nf os s cs + if ix os c = s then 1 else 0
def nz (os : List Int) : List Nat → Nat
  | [] => 0
  | c :: cs => nz os cs + if ix os c = 0 then 0 else 1
def np (s : Int) : List Int → Nat
  | [] => 0
  | p :: ps => np s ps + if p = s then 1 else 0

theorem nf_app (os : List Int) (s : Int) : ∀ xs ys : List Nat, nf os s (xs ++ ys) = nf os s xs + nf os s ys
  | [], ys => by simp [nf]
  | c :: xs, ys => by rw [List.cons_append, nf, nf, nf_app os s xs ys]; omega
theorem nz_app (os : List Int) : ∀ xs ys : List Nat, nz os (xs ++ ys) = nz os xs + nz os ys
  | [], ys => by simp [nz]
  | c :: xs, ys => by rw [List.cons_append, nz, nz, nz_app os xs ys]; omega
theorem np_app (s : Int) : ∀ xs ys : List Int, np s (xs ++ ys) = np s xs + np s ys
  | [], ys => by simp [np]
  | c :: xs, ys => by rw [List.cons_append, np, np, np_app s xs ys]; omega
theorem nf_all {os : List Int} {s r : Int} : ∀ {cs : List Nat}, (∀ c ∈ cs, ix os c = r) → nf os s cs = if r = s then cs.length else 0
  | [], _ => by simp [nf]
  | c :: cs, h => by
    rw [nf, nf_all (fun x hx => h x (List.mem_cons_of_mem _ hx)), h c (List.mem_cons_self ..)]
    split <;> simp
theorem nz_none {os : List Int} : ∀ {cs : List Nat}, (∀ c ∈ cs, ix os c = 0) → nz os cs = 0
  | [], _ => rfl
  | c :: cs, h => by
    rw [nz, nz_none (fun x hx => h x (List.mem_cons_of_mem _ hx)), if_pos (h c (List.mem_cons_self ..))]
theorem nz_le (os : List Int) : ∀ cs : List Nat, nz os cs ≤ cs.length
  | [] => Nat.le_refl _
  | c :: cs => by
    have := nz_le os cs
    rw [nz, List.length_cons]
    split <;> omega
theorem np_rep (s v : Int) : ∀ k, np s (List.replicate k v) = if v = s then k else 0
  | 0 => by simp [np]
  | k + 1 => by rw [List.replicate_succ, np, np_rep s v k]; split <;> simp
theorem ct_set {o : List Int} {c : Nat} (hc : c < o.length) (v s : Int) : ∀ k, ct (o.set c v) s k + (if c < k ∧ ix o c = s then 1 else 0) = ct o s k + (if c < k ∧ v = s then 1 else 0)
  | 0 => by simp [ct]
  | k + 1 => by
    have ih := ct_set hc v s k
    rw [ct, ct, ix_set hc]
    by_cases e : k = c
    · subst e
      rw [if_neg (by omega), if_neg (by omega)] at ih
      rw [if_pos rfl]
      have h1 : (k < k + 1 ∧ ix o k = s) ↔ ix o k = s := by constructor; exact fun h => h.2; exact fun h => ⟨by omega, h⟩
      have h2 : (k < k + 1 ∧ v = s) ↔ v = s := by constructor; exact fun h => h.2; exact fun h => ⟨by omega, h⟩
      simp only [h1, h2]
      omega
    · rw [if_neg e]
      have h1 : (c < k + 1 ∧ ix o c = s) ↔ (c < k ∧ ix o c = s) := by constructor <;> exact fun h => ⟨by omega, h.2⟩
      have h2 : (c < k + 1 ∧ v = s) ↔ (c < k ∧ v = s) := by constructor <;> exact fun h => ⟨by omega, h.2⟩
      simp only [h1, h2]
      omega
theorem cn_set {o : List Int} {c : Nat} (hc : c < o.length) (v s : Int) : cn (o.set c v) s + (if ix o c = s then 1 else 0) = cn o s + (if v = s then 1 else 0) := by
  have h := ct_set hc v s o.length
  have h1 : (c < o.length ∧ ix o c = s) ↔ ix o c = s := ⟨fun h => h.2, fun h => ⟨hc, h⟩⟩
  have h2 : (c < o.length ∧ v = s) ↔ v = s := ⟨fun h => h.2, fun h => ⟨hc, h⟩⟩
  simp only [h1, h2] at h
  unfold cn
  rw [List.length_set]
  exact h
theorem goC_next (os ex : List Int) (j : Nat) : goC os ex (j + 1) = goC os ex j ++ grL os ((j : Int) + 1) (ix ex j).toNat := by
  rw [goC, goC, fl, List.append_assoc]
theorem plC_next (lk : List Int) (j : Nat) : plC lk (j + 1) = plC lk j ++ List.replicate (ix lk j).toNat ((j : Int) + 1) := rfl
theorem goC_spec (os ex : List Int) : ∀ j, (goC os ex j).Nodup ∧ ∀ c ∈ goC os ex j, c < os.length ∧ (ix os c = 0 ∨ ∃ i : Nat, i < j ∧ ix os c = (i : Int) + 1 ∧ 0 < ix ex i)
  | 0 => by
    have e : goC os ex 0 = up os 0 os.length := by rw [goC, fl, List.append_nil]
    rw [e]
    exact ⟨up_nodup os 0 _, fun c hc => ⟨(up_mem hc).1, .inl (up_mem hc).2⟩⟩
  | j + 1 => by
    obtain ⟨h1, h2⟩ := goC_spec os ex j
    rw [goC_next]
    refine ⟨?_, fun c hc => ?_⟩
    · rw [List.nodup_append]
      refine ⟨h1, (List.take_sublist _ _).nodup (dn_nodup os _ _), fun a ha b hb e => ?_⟩
      subst e
      have hb := (grL_mem hb).2.1
      rcases (h2 a ha).2 with h | ⟨i, hi, h, _⟩ <;> omega
    · rcases List.mem_append.1 hc with hc | hc
      · refine ⟨(h2 c hc).1, (h2 c hc).2.imp id (fun ⟨i, hi, h⟩ => ⟨i, by omega, h⟩)⟩
      · obtain ⟨g1, g2, g3⟩ := grL_mem hc
        exact ⟨g1, .inr ⟨j, by omega, g2, by omega⟩⟩
theorem nf_goC (os ex : List Int) (p : Nat) : ∀ j, nf os ((p : Int) + 1) (goC os ex j) = if p < j then (grL os ((p : Int) + 1) (ix ex p).toNat).length else 0
  | 0 => by
    have e : goC os ex 0 = up os 0 os.length := by rw [goC, fl, List.append_nil]
    rw [e, nf_all (r := 0) (fun c hc => (up_mem hc).2), if_neg (by omega), if_neg (by omega)]
  | j + 1 => by
    rw [goC_next, nf_app, nf_goC os ex p j, nf_all (r := (j : Int) + 1) (fun c hc => (grL_mem hc).2.1)]
    by_cases h : p < j
    · rw [if_pos h, if_neg (by omega), if_pos (by omega)]; omega
    · rw [if_neg h]
      by_cases e : j = p
      · subst e; rw [if_pos rfl, if_pos (by omega)]; omega
      · rw [if_neg (by omega), if_neg (by omega)]
theorem np_plC (lk : List Int) (p : Nat) : ∀ j, np ((p : Int) + 1) (plC lk j) = if p < j then (ix lk p).toNat else 0
  | 0 => rfl
  | j + 1 => by
    rw [plC_next, np_app, np_plC lk p j, np_rep]
    by_cases h : p < j
    · rw [if_pos h, if_neg (by omega), if_pos (by omega)]; omega
    · rw [if_neg h]
      by_cases e : j = p
      · subst e; rw [if_pos rfl, if_pos (by omega)]; omega
      · rw [if_neg (by omega), if_neg (by omega)]
theorem plC_mem {lk : List Int} {q : Int} : ∀ {j : Nat}, q ∈ plC lk j → ∃ i : Nat, i < j ∧ q = (i : Int) + 1 ∧ 0 < ix lk i
  | 0, h => by simp [plC, fl] at h
  | j + 1, h => by
    rw [plC_next] at h
    rcases List.mem_append.1 h with h | h
    · obtain ⟨i, hi, e⟩ := plC_mem h
      exact ⟨i, by omega, e⟩
    · obtain ⟨h1, h2⟩ := List.mem_replicate.1 h
      exact ⟨j, by omega, h2, by omega⟩

theorem apS_mv {o : List Int} {c : Nat} {f t : Int} (hc : c < o.length) (h : ix o c = f) : apS o ((c : Int), f, t) = o.set c t := by
  unfold apS
  simp only [Int.toNat_natCast]
  rw [if_pos ⟨by omega, by omega, h⟩]

theorem reach_aux {os : List Int} {s : Int} (hs : s ≠ 0) : ∀ (cs : List Nat) (o : List Int) (ps : List Int), cs.Nodup → (∀ c ∈ cs, c < o.length ∧ ix o c = ix os c) → ps.length ≤ cs.length →
    cn (apL o (mk os cs ps)) s + nf os s cs = cn o s + np s ps
  | [], o, ps, _, _, hl => by
    have : ps = [] := List.eq_nil_of_length_eq_zero (by simpa using hl)
    subst this
    rfl
  | c :: cs, o, ps, hn, hc, hl => by
    obtain ⟨hn1, hn2⟩ := List.nodup_cons.1 hn
    obtain ⟨c1, c2⟩ := hc c (List.mem_cons_self ..)
    have hp : np s ps = np s ps.tail + if ps.headD 0 = s then 1 else 0 := by
      cases ps with
      | nil => simp [np]; omega
      | cons p ps => rfl
    have hl2 : ps.tail.length ≤ cs.length := by
      rw [List.length_tail]
      rw [List.length_cons] at hl
      omega
    rw [mk, nf, hp]
    split
    · rename_i e
      have ih := reach_aux (os := os) hs cs o ps.tail hn2 (fun x hx => hc x (List.mem_cons_of_mem _ hx)) hl2
      rw [e]
      omega
    · have ih := reach_aux (os := os) hs cs (o.set c (ps.headD 0)) ps.tail hn2 (fun x hx => by
        obtain ⟨x1, x2⟩ := hc x (List.mem_cons_of_mem _ hx)
        refine ⟨by rw [List.length_set]; exact x1, ?_⟩
        have hxc : x ≠ c := fun e => hn1 (e ▸ hx)
        rw [ix_set c1, if_neg hxc, x2]) hl2
      have hset := cn_set c1 (ps.headD 0) s
      rw [apL, List.foldl_cons, apS_mv c1 c2]
      rw [apL] at ih
      rw [c2] at hset
      omega

/-- A target that can be reached. -/
def V (os ts : List Int) : Prop := rightB os ts = true ∧ enB (os.length : Int) ts = true
section
variable {os ts : List Int}
theorem V.t (h : V os ts) {i : Nat} (hi : i < ts.length) : 0 ≤ ix ts i := (right_iff.1 h.1).1 i hi
theorem V.good (h : V os ts) : os.length ≤ 64 ∧ (ts.length ≤ 64) ∧ ∀ c, c < os.length → 0 ≤ ix os c ∧ ix os c ≤ (ts.length : Int) := by
  have := good_iff.1 (right_iff.1 h.1).2
  exact ⟨this.1, by omega, this.2.2.2⟩
theorem planA_v (h : V os ts) : planA os ts = planL os ts := if_pos h
theorem ex_lk (i : Nat) : exI os ts i + ix ts i = lkI os ts i + (cn os ((i : Int) + 1) : Nat) := by
  unfold exI lkI; split <;> omega
theorem ex_len (h : V os ts) {i : Nat} (hi : i < ts.length) : (grL os ((i : Int) + 1) (exI os ts i).toNat).length = (exI os ts i).toNat := by
  have := exI_le h.1 hi
  exact grL_len (by omega)
theorem go_len (h : V os ts) : ((goC os (exL os ts) ts.length).length : Int) = ct os 0 os.length + sm (fun i => exI os ts i) ts.length := by
  rw [goC, List.length_append, up_len]
  have e := fl_len (fun i => grL os ((i : Int) + 1) (ix (exL os ts) i).toNat) ts.length
  have e2 : sm (fun i => ((grL os ((i : Int) + 1) (ix (exL os ts) i).toNat).length : Int)) ts.length = sm (fun i => exI os ts i) ts.length := sm_congr fun i hi => by
    rw [ix_exL hi, ex_len h hi]
    have := exI_nn (os := os) (ts := ts) i
    omega
  omega
theorem pl_len : ((plC (lkL os ts) ts.length).length : Int) = sm (fun i => lkI os ts i) ts.length := by
  unfold plC
  rw [fl_len]
  exact sm_congr fun i hi => by
    rw [ix_lkL hi, List.length_replicate]
    have := lkI_nn (os := os) (ts := ts) i
    omega
theorem lens (h : V os ts) : (plC (lkL os ts) ts.length).length ≤ (goC os (exL os ts) ts.length).length := by
  have h1 := go_len h
  have h2 := pl_len (os := os) (ts := ts)
  have h3 := sm_ct os ts.length os.length (fun c hc => h.good.2.2 c hc)
  have h4 := en_sum ts os.length (by omega) h.2
  rw [← sum_sm] at h4
  have h5 : sm (fun i => exI os ts i + ix ts i) ts.length = sm (fun i => lkI os ts i + (ct os ((i : Int) + 1) os.length : Int)) ts.length := sm_congr fun i _ => ex_lk i
  rw [sm_add (fun i => exI os ts i) (fun i => ix ts i), sm_add (fun i => lkI os ts i) (fun i => (ct os ((i : Int) + 1) os.length : Int))] at h5
  have e1 : sm (fun i => ix ts i) ts.length = sm (ix ts) ts.length := rfl
  have e2 : sm (fun i => exI os ts i) ts.length = sm (exI os ts) ts.length := rfl
  have e3 : sm (fun i => lkI os ts i) ts.length = sm (lkI os ts) ts.length := rfl
  rw [e1] at h4 h5
  rw [e2] at h1 h5
  rw [e3] at h2 h5
  omega

/-- Behind the plan each space has its target. -/
theorem reach (h : V os ts) : cntL (apL os (planL os ts)) ts.length = ts := by
  apply ix_ext (cntL_len _ _)
  intro i hi
  rw [cntL_len] at hi
  rw [ix_cntL hi]
  obtain ⟨g1, g2⟩ := goC_spec os (exL os ts) ts.length
  have key := reach_aux (os := os) (s := (i : Int) + 1) (by omega) _ os _ g1 (fun c hc => ⟨(g2 c hc).1, rfl⟩) (lens h)
  rw [nf_goC, if_pos hi, np_plC, if_pos hi, ix_exL hi, ix_lkL hi, ex_len h hi] at key
  have e := ex_lk (os := os) (ts := ts) i
  have e1 := exI_nn (os := os) (ts := ts) i
  have e2 := lkI_nn (os := os) (ts := ts) i
  rw [planL]
  omega
end

theorem mk_mem {os : List Int} {m : Int × Int × Int} : ∀ {cs : List Nat} {ps : List Int}, m ∈ mk os cs ps → ∃ c ∈ cs, m = ((c : Int), ix os c, m.2.2) ∧ ix os c ≠ m.2.2 ∧ (m.2.2 = 0 ∨ m.2.2 ∈ ps)
  | [], ps, h => by simp [mk] at h
  | c :: cs, ps, h => by
    have tl : ∀ q, q ∈ ps.tail → q ∈ ps := fun q hq => List.mem_of_mem_tail hq
    have lift : (∃ c' ∈ cs, m = ((c' : Int), ix os c', m.2.2) ∧ ix os c' ≠ m.2.2 ∧ (m.2.2 = 0 ∨ m.2.2 ∈ ps.tail)) → ∃ c' ∈ c :: cs, m = ((c' : Int), ix os c', m.2.2) ∧ ix os c' ≠ m.2.2 ∧ (m.2.2 = 0 ∨ m.2.2 ∈ ps) :=
      fun ⟨x, hx, e, n, q⟩ => ⟨x, List.mem_cons_of_mem _ hx, e, n, q.imp id (tl _)⟩
    rw [mk] at h
    split at h
    · exact lift (mk_mem h)
    · rename_i hne
      rcases List.mem_cons.1 h with rfl | h
      · refine ⟨c, List.mem_cons_self .., rfl, hne, ?_⟩
        cases ps with
        | nil => exact .inl rfl
        | cons p ps => exact .inr (List.mem_cons_self ..)
      · exact lift (mk_mem h)
theorem mk_sub (os : List Int) : ∀ (cs : List Nat) (ps : List Int), ((mk os cs ps).map (fun m => m.1)).Sublist (cs.map (fun (c : Nat) => (c : Int)))
  | [], ps => by simp [mk]
  | c :: cs, ps => by
    rw [mk, List.map_cons]
    split
    · exact (mk_sub os cs ps.tail).cons _
    · rw [List.map_cons]
      exact (mk_sub os cs ps.tail).cons_cons _
theorem mk_len (os : List Int) : ∀ (cs : List Nat) (ps : List Int), (mk os cs ps).length ≤ nz os cs + ps.length
  | [], ps => by simp [mk]
  | c :: cs, ps => by
    have ih := mk_len os cs ps.tail
    rw [List.length_tail] at ih
    rw [mk, nz]
    split
    · omega
    · rename_i hne
      rw [List.length_cons]
      split
      · rename_i h0
        have : 0 < ps.length := by
          cases ps with
          | nil => exact absurd h0 hne
          | cons p ps => simp
        omega
      · omega
theorem mk_free {os : List Int} : ∀ {cs : List Nat}, (∀ c ∈ cs, ix os c = 0) → mk os cs [] = []
  | [], _ => rfl
  | c :: cs, h => by
    rw [mk, if_pos (show ix os c = ([] : List Int).headD 0 from h c (List.mem_cons_self ..))]
    exact mk_free (fun x hx => h x (List.mem_cons_of_mem _ hx))
theorem nodup_cast {cs : List Nat} (h : cs.Nodup) : (cs.map (fun (c : Nat) => (c : Int))).Nodup := by
  unfold List.Nodup at *
  rw [List.pairwise_map]
  exact h.imp (fun hne e => hne (by omega))
theorem fl_none {α : Type} {f : Nat → List α} : ∀ {n : Nat}, (∀ i, i < n → f i = []) → fl f n = []
  | 0, _ => rfl
  | n + 1, h => by rw [fl, fl_none (fun i hi => h i (by omega)), h n (by omega)]; rfl

section
variable {os ts : List Int}
/-- What a move of the plan is. -/
structure Mvd (os ts : List Int) (m : Int × Int × Int) (c : Nat) : Prop where
  core : m.1 = (c : Int)
  lt : c < os.length
  has : ix os c = m.2.1
  ne : m.2.1 ≠ m.2.2
  from_ : m.2.1 = 0 ∨ ∃ i : Nat, i < ts.length ∧ m.2.1 = (i : Int) + 1 ∧ 0 < exI os ts i
  to : m.2.2 = 0 ∨ ∃ i : Nat, i < ts.length ∧ m.2.2 = (i : Int) + 1 ∧ 0 < lkI os ts i
theorem plan_mem {m : Int × Int × Int} (hm : m ∈ planL os ts) : ∃ c, Mvd os ts m c := by
  obtain ⟨c, hc, e, hne, hp⟩ := mk_mem hm
  obtain ⟨h1, h2⟩ := (goC_spec os (exL os ts) ts.length).2 c hc
  have e1 : m.1 = (c : Int) := by rw [e]
  have e2 : ix os c = m.2.1 := by rw [e]
  refine ⟨c, e1, h1, e2, by rw [← e2]; exact hne, ?_, ?_⟩
  · rw [← e2]
    exact h2.imp id (fun ⟨i, hi, a, b⟩ => ⟨i, hi, a, by rw [ix_exL hi] at b; exact b⟩)
  · refine hp.imp id (fun hq => ?_)
    obtain ⟨i, hi, a, b⟩ := plC_mem hq
    exact ⟨i, hi, a, by rw [ix_lkL hi] at b; exact b⟩
theorem plan_nodup : ((planL os ts).map (fun m => m.1)).Nodup := (mk_sub _ _ _).nodup (nodup_cast (goC_spec os (exL os ts) ts.length).1)
/-- How far they are from the target. -/
def fr (os ts : List Int) : Nat → Int := sm (fun i => exI os ts i + lkI os ts i)
theorem plan_len (h : V os ts) : ((planL os ts).length : Int) ≤ fr os ts ts.length := by
  have h1 := mk_len os (goC os (exL os ts) ts.length) (plC (lkL os ts) ts.length)
  have h2 := pl_len (os := os) (ts := ts)
  have h3 : nz os (goC os (exL os ts) ts.length) ≤ (fl (fun i => grL os ((i : Int) + 1) (ix (exL os ts) i).toNat) ts.length).length := by
    rw [goC, nz_app, nz_none (fun c hc => (up_mem hc).2), Nat.zero_add]
    exact nz_le _ _
  have h4 := go_len h
  rw [goC, List.length_append, up_len] at h4
  unfold fr
  rw [sm_add (fun i => exI os ts i) (fun i => lkI os ts i)]
  unfold planL
  omega
/-- Where each has its target there is nothing to plan. -/
theorem plan_none {o : List Int} (h : cntL o ts.length = ts) : planA o ts = [] := by
  have hz : ∀ i, i < ts.length → ((cn o ((i : Int) + 1) : Nat) : Int) = ix ts i := fun i hi => by
    rw [← ix_cntL hi, h]
  unfold planA
  split
  · have e1 : plC (lkL o ts) ts.length = [] := fl_none fun i hi => by
      rw [ix_lkL hi]
      have : lkI o ts i = 0 := by unfold lkI; rw [hz i hi]; split <;> omega
      rw [this]; rfl
    have e2 : fl (fun i => grL o ((i : Int) + 1) (ix (exL o ts) i).toNat) ts.length = [] := fl_none fun i hi => by
      rw [ix_exL hi]
      have : exI o ts i = 0 := by unfold exI; rw [hz i hi]; split <;> omega
      rw [this]; rfl
    rw [planL, e1, goC, e2, List.append_nil]
    exact mk_free (fun c hc => (up_mem hc).2)
  · rfl
theorem far_zero (h : cntL os ts.length = ts) : fr os ts ts.length = 0 := by
  have hz : ∀ i, i < ts.length → ((cn os ((i : Int) + 1) : Nat) : Int) = ix ts i := fun i hi => by
    rw [← ix_cntL hi, h]
  have e : fr os ts ts.length = sm (fun _ => 0) ts.length := sm_congr fun i hi => by
    unfold exI lkI
    rw [hz i hi]
    split <;> omega
  rw [e]
  have z : ∀ n, sm (fun _ => 0) n = 0 := fun n => by
    induction n with
    | zero => rfl
    | succ n ih => rw [sm, ih]; rfl
  exact z _
theorem far_nil (h : V os ts) (e : planL os ts = []) : fr os ts ts.length = 0 := by
  have := reach h
  rw [e] at this
  exact far_zero this
theorem en_le : ∀ (ts : List Int) (l : Int), (∀ i, i < ts.length → 0 ≤ ix ts i) → enB l ts = true → ∀ i, i < ts.length → ix ts i ≤ l
  | t :: r, l, h0, h, i, hi => by
    rw [enB] at h
    split at h
    · cases h
    · cases i with
      | zero => rw [ix_head]; omega
      | succ i =>
        have a := h0 0 (by simp)
        rw [ix_head] at a
        have := en_le r (l - t) (fun j hj => by have := h0 (j + 1) (by simp; omega); rw [ix_tail] at this; exact this) h i (by simp at hi; omega)
        rw [ix_tail]; omega
theorem V.ex_bd (h : V os ts) {i : Nat} (hi : i < ts.length) : 0 ≤ exI os ts i ∧ exI os ts i ≤ 64 := by
  have h1 := exI_le h.1 hi
  have h2 := ct_le os ((i : Int) + 1) os.length
  have h3 := h.good.1
  unfold cn at h1
  exact ⟨exI_nn i, by omega⟩
theorem V.lk_bd (h : V os ts) {i : Nat} (hi : i < ts.length) : 0 ≤ lkI os ts i ∧ lkI os ts i ≤ 64 := by
  have h1 := en_le ts _ (fun i hi => h.t hi) h.2 i hi
  have h2 := h.t hi
  have h3 := h.good.1
  refine ⟨lkI_nn i, ?_⟩
  unfold lkI; split <;> omega
theorem V.fr_bd (h : V os ts) : ∀ j, j ≤ ts.length → 0 ≤ fr os ts j ∧ fr os ts j ≤ 128 * j
  | 0, _ => ⟨Int.le_refl _, Int.le_refl _⟩
  | j + 1, hj => by
    have ih := h.fr_bd j (by omega)
    have a := h.ex_bd (i := j) (by omega)
    have b := h.lk_bd (i := j) (by omega)
    have e : fr os ts (j + 1) = fr os ts j + (exI os ts j + lkI os ts j) := rfl
    omega
/-- A move of the plan, alone, leads nearer. -/
theorem nearer (h : V os ts) {m : Int × Int × Int} (hm : m ∈ planL os ts) : V (apS os m) ts ∧ fr (apS os m) ts ts.length < fr os ts ts.length := by
  obtain ⟨c, hM⟩ := plan_mem hm
  obtain ⟨mc, mf, mt⟩ := m
  obtain ⟨h1, h2, h3, h4, h5, h6⟩ := hM
  simp only at h1 h3 h4 h5 h6
  subst h1
  rw [apS_mv h2 h3]
  have hc := fun s => cn_set h2 mt s
  rw [h3] at hc
  refine ⟨⟨right_iff.2 ⟨(right_iff.1 h.1).1, good_iff.2 ?_⟩, by rw [List.length_set]; exact h.2⟩, ?_⟩
  · obtain ⟨g1, g2, g3⟩ := h.good
    refine ⟨by rw [List.length_set]; exact g1, by omega, by omega, fun x hx => ?_⟩
    rw [List.length_set] at hx
    rw [ix_set h2]
    split
    · rcases h6 with h6 | ⟨i, hi, e, _⟩ <;> omega
    · exact g3 x hx
  · have le : ∀ i, i < ts.length → exI (os.set c mt) ts i + lkI (os.set c mt) ts i ≤ exI os ts i + lkI os ts i ∧ (mf = (i : Int) + 1 ∨ mt = (i : Int) + 1 → exI (os.set c mt) ts i + lkI (os.set c mt) ts i < exI os ts i + lkI os ts i) := by
      intro i hi
      have hci := hc ((i : Int) + 1)
      by_cases hf : mf = (i : Int) + 1
      · have hex : 0 < exI os ts i := by
          rcases h5 with h5 | ⟨i', hi', e, hp⟩
          · omega
          · obtain rfl : i' = i := by omega
            exact hp
        rw [if_pos hf, if_neg (by omega)] at hci
        unfold exI at hex
        unfold exI lkI
        split at hex
        · rename_i hlt
          rw [if_pos hlt, if_pos hlt]
          by_cases q : ix ts i < ((cn (os.set c mt) ((i : Int) + 1) : Nat) : Int)
          · rw [if_pos q, if_pos q]; omega
          · rw [if_neg q, if_neg q]; omega
        · omega
      · by_cases ht : mt = (i : Int) + 1
        · have hlk : 0 < lkI os ts i := by
            rcases h6 with h6 | ⟨i', hi', e, hp⟩
            · omega
            · obtain rfl : i' = i := by omega
              exact hp
          rw [if_neg hf, if_pos ht] at hci
          unfold lkI at hlk
          unfold exI lkI
          split at hlk
          · omega
          · rename_i hlt
            rw [if_neg hlt, if_neg hlt]
            by_cases q : ix ts i < ((cn (os.set c mt) ((i : Int) + 1) : Nat) : Int)
            · rw [if_pos q, if_pos q]; omega
            · rw [if_neg q, if_neg q]; omega
        · rw [if_neg hf, if_neg ht] at hci
          have e : cn (os.set c mt) ((i : Int) + 1) = cn os ((i : Int) + 1) := by omega
          unfold exI lkI
          rw [e]
          exact ⟨Int.le_refl _, fun h => by omega⟩
    by_cases h0 : mf = 0
    · rcases h6 with h6 | ⟨i, hi, e, _⟩
      · omega
      · exact sm_lt i hi (fun i hi => (le i hi).1) ((le i hi).2 (.inr e))
    · rcases h5 with h5 | ⟨i, hi, e, _⟩
      · omega
      · exact sm_lt i hi (fun i hi => (le i hi).1) ((le i hi).2 (.inl e))
end
end Go.Proofs.Ytokigpmkhkldkaa
