/- What holds of a table, and goes on to hold. -/
import Derived.Test.YtjgclehghnmhnaaDoorLfM
namespace Go.Proofs.YtjgclehghnmhnaaDoor
open Go Go.RowKit

theorem mem_idsK {ag : List Nat} {tk : List Bool} {x : Int} : x ∈ idsK ag tk tk.length ↔ ∃ i : Nat, tk[i]? = some true ∧ idI (i : Int) (ag.getD i 0 : Nat) = x := by
  unfold idsK
  rw [List.mem_map]
  constructor
  · rintro ⟨i, hi, e⟩
    rw [List.mem_filter] at hi
    exact ⟨i, by simpa using hi.2, e⟩
  · rintro ⟨i, hi, e⟩
    refine ⟨i, List.mem_filter.2 ⟨List.mem_range.2 (List.getElem?_eq_some_iff.1 hi).1, by simpa using hi⟩, e⟩

/-- What holds of one. -/
structure Lc (a : Ac) : Prop where
  s1 : 1 ≤ a.st
  s5 : a.st ≤ 5
  run : a.st = 2 → 0 ≤ a.co ∧ a.co ≤ 63
  off : a.st ≠ 2 → a.co = -1
  th : a.st = 1 ∨ a.st = 5 → a.th = 0
/-- What holds of a table. -/
structure Okk (N : Nat) (σ : Sta) : Prop where
  srt : Srt σ.xs
  live : ∀ i, liveB σ.ag σ.tk i = true ↔ ∃ a ∈ σ.xs, a.id = i
  al : σ.ag.length = N
  tl : σ.tk.length = N
  n4 : N ≤ 4096
  ab : ∀ x ∈ σ.ag, x ≤ 2147483647
  age : ∀ i : Nat, σ.tk[i]? = some true → 1 ≤ σ.ag.getD i 0
  lc : ∀ a ∈ σ.xs, Lc a
  cu : ∀ a ∈ σ.xs, ∀ b ∈ σ.xs, a.co = b.co → 0 ≤ a.co → a.id = b.id

section
variable {N : Nat} {σ : Sta}
theorem Okk.age2 (h : Okk N σ) {i : Nat} (hi : σ.tk[i]? = some true) : i < 4096 ∧ σ.ag[i]? = some (σ.ag.getD i 0) ∧ 1 ≤ σ.ag.getD i 0 ∧ σ.ag.getD i 0 ≤ 2147483647 := by
  have hlt := (List.getElem?_eq_some_iff.1 hi).1
  have := h.tl
  have := h.al
  have := h.n4
  have hg : σ.ag[i]? = some (σ.ag.getD i 0) := by
    rw [List.getD_eq_getElem?_getD, List.getElem?_eq_getElem (by omega)]
    rfl
  exact ⟨by omega, hg, h.age i hi, h.ab _ (List.mem_of_getElem? hg)⟩
theorem Okk.mem_all (h : Okk N σ) {x : Int} : x ∈ allL σ.ag σ.tk ↔ liveB σ.ag σ.tk x = true := by
  unfold allL
  rw [(List.mergeSort_perm _ _).mem_iff, mem_idsK]
  constructor
  · rintro ⟨i, hi, rfl⟩
    obtain ⟨l1, l2, l3, l4⟩ := h.age2 hi
    obtain ⟨p1, p2, p3⟩ := idI_parts (i := i) (a := σ.ag.getD i 0) (by omega) l3 l4
    exact live_of p1 (by rw [p2]; exact hi) (by rw [p2]; exact l2) p3
  · intro hv
    obtain ⟨r1, r2, a, r3, r4⟩ := live_iff hv
    obtain ⟨l1, l2, l3, l4⟩ := h.age2 r2
    refine ⟨ix x, r2, ?_⟩
    rw [r3] at l2
    rw [← Option.some.inj l2] at l3 l4 ⊢
    have e := ix_eq x
    unfold idI
    rw [if_pos (by omega)]
    omega
theorem Okk.all_lt (h : Okk N σ) : (allL σ.ag σ.tk).Pairwise (· < ·) := by
  have h1 : (allL σ.ag σ.tk).Pairwise (fun x y => decide (x ≤ y) = true) := by
    unfold allL
    exact List.pairwise_mergeSort (fun a b c h1 h2 => by simp at h1 h2 ⊢; omega) (fun a b => by simp; omega) _
  have h2 : (allL σ.ag σ.tk).Pairwise (· ≠ ·) := by
    unfold allL
    refine ((List.mergeSort_perm _ _).pairwise_iff (fun {_ _} hne => Ne.symm hne)).2 ?_
    unfold idsK
    rw [List.pairwise_map]
    have h0 : (List.filter (fun i => σ.tk[i]? == some true) (List.range σ.tk.length)).Pairwise (· < ·) := List.Pairwise.filter _ List.pairwise_lt_range
    refine List.Pairwise.imp_of_mem (fun {i j} hi hj hlt e => ?_) h0
    have hi := (List.mem_filter.1 hi).2
    have hj := (List.mem_filter.1 hj).2
    obtain ⟨l1, l2, l3, l4⟩ := h.age2 (i := i) (by simpa using hi)
    obtain ⟨m1, m2, m3, m4⟩ := h.age2 (i := j) (by simpa using hj)
    obtain ⟨_, p2, _⟩ := idI_parts (i := i) (a := σ.ag.getD i 0) (by omega) l3 l4
    obtain ⟨_, q2, _⟩ := idI_parts (i := j) (a := σ.ag.getD j 0) (by omega) m3 m4
    rw [e, q2] at p2
    omega
  exact List.Pairwise.imp (fun {a b} hab => by
    obtain ⟨x, y⟩ := hab
    simp at x
    omega) (List.pairwise_and_iff.2 ⟨h1, h2⟩)
theorem Okk.ids (h : Okk N σ) : allL σ.ag σ.tk = σ.xs.map (·.id) := by
  refine eq_of_mem_lt h.all_lt ?_ (fun x => ?_)
  · rw [List.pairwise_map]
    exact h.srt
  · rw [h.mem_all, h.live, List.mem_map]
theorem Okk.len (h : Okk N σ) : σ.xs.length ≤ N := by
  have e := congrArg List.length h.ids
  rw [allL_length, List.length_map] at e
  rw [← e, ← h.tl]
  exact idsK_le _ _ _
theorem Okk.idr (h : Okk N σ) {a : Ac} (ha : a ∈ σ.xs) : 65536 ≤ a.id ∧ a.id < 140737488355328 := (live_iff ((h.live a.id).2 ⟨a, ha, rfl⟩)).1
/-- One has turned. -/
theorem Okk.upd (h : Okk N σ) {a a' : Ac} (ha : a ∈ σ.xs) (e : a'.id = a.id) (hl : Lc a') (hc : ∀ b ∈ σ.xs, b.id ≠ a.id → b.co = a'.co → a'.co < 0) : Okk N { σ with xs := insA a' σ.xs } := by
  refine ⟨insA_srt h.srt, fun i => ?_, h.al, h.tl, h.n4, h.ab, h.age, fun b hb => ?_, fun b hb c hc' => ?_⟩
  · show liveB σ.ag σ.tk i = true ↔ _
    rw [h.live]
    constructor
    · rintro ⟨b, hb, rfl⟩
      by_cases hba : b.id = a'.id
      · exact ⟨a', (mem_insA h.srt).2 (.inl rfl), hba.symm⟩
      · exact ⟨b, (mem_insA h.srt).2 (.inr ⟨hb, hba⟩), rfl⟩
    · rintro ⟨b, hb, rfl⟩
      rcases (mem_insA h.srt).1 hb with rfl | ⟨hb, _⟩
      · exact ⟨a, ha, e.symm⟩
      · exact ⟨b, hb, rfl⟩
  · rcases (mem_insA h.srt).1 hb with rfl | ⟨hb, _⟩
    · exact hl
    · exact h.lc b hb
  · intro e1 e2
    rcases (mem_insA h.srt).1 hb with h3 | ⟨h3, hne⟩ <;> rcases (mem_insA h.srt).1 hc' with h4 | ⟨h4, hne'⟩
    · rw [h3, h4]
    · have := hc c h4 (by omega) (by rw [← e1, h3])
      rw [← h3] at this
      omega
    · have := hc b h3 (by omega) (by rw [e1, h4])
      rw [← h4] at this
      omega
    · exact h.cu b h3 c h4 e1 e2
theorem folB_iff {a : Ac} {s : Nat} (hs : s = 1 ∨ s = 2 ∨ s = 4 ∨ s = 8 ∨ s = 16) (h : folB s a.st = true) : (s = 1 → a.st = 1) ∧ (s = 2 ∨ s = 4 ∨ s = 8 → a.st = 2) ∧ (s = 16 → a.st = 2 ∨ a.st = 3 ∨ a.st = 4) := by
  rcases hs with rfl | rfl | rfl | rfl | rfl <;> simp [folB] at h ⊢ <;> omega
theorem busy_not {xs : List Ac} {c : Int} (h : busyB xs c = false) : ∀ b ∈ xs, b.co ≠ c := fun b hb => by
  unfold busyB at h
  simpa using List.any_eq_false.1 h b hb
/-- A step that turns one. -/
structure Good (s : Nat) (chk : Ac → Int) (f : Ac → Ac) (xs : List Ac) : Prop where
  id : ∀ a, (f a).id = a.id
  lc : ∀ a ∈ xs, Lc a → folB s a.st = true → chk a = 0 → Lc (f a)
  co : ∀ a ∈ xs, folB s a.st = true → chk a = 0 → ∀ b ∈ xs, b.id ≠ a.id → b.co = (f a).co → (f a).co < 0 ∨ b.co = a.co
theorem Okk.op (h : Okk N σ) {s : Nat} {chk : Ac → Int} {f : Ac → Ac} (g : Good s chk f σ.xs) (i : Int) : Okk N (opS s chk f σ i) := by
  unfold opS opX
  cases hf : fndA σ.xs i with
  | none => exact h
  | some a =>
    obtain ⟨ha, _⟩ := fnd_some hf
    dsimp only
    by_cases hc : (folB s a.st && chk a == 0) = true
    · rw [if_pos hc]
      simp only [Bool.and_eq_true, beq_iff_eq] at hc
      refine h.upd ha (g.id a) (g.lc a ha (h.lc a ha) hc.1 hc.2) (fun b hb hne e => ?_)
      rcases g.co a ha hc.1 hc.2 b hb hne e with hlt | heq
      · exact hlt
      · by_cases h0 : 0 ≤ a.co
        · exact absurd (h.cu a ha b hb heq.symm h0).symm hne
        · omega
    · rw [if_neg hc]
      exact h
theorem good_run (xs : List Ac) (c : Int) : Good 1 (runK xs c) (runF c) xs := by
  refine ⟨fun _ => rfl, fun a ha hl hf hk => ?_, fun a ha hf hk b hb hne e => ?_⟩
  · have h1 := (folB_iff (.inl rfl) hf).1 rfl
    unfold runK at hk
    split at hk
    · cases hk
    · rename_i hc
      exact ⟨by simp [runF], by simp [runF], fun _ => by simp only [runF]; omega, fun h => absurd rfl h, fun h => by simp [runF] at h⟩
  · exfalso
    unfold runK at hk
    split at hk
    · cases hk
    · split at hk
      · cases hk
      · rename_i hbz
        exact busy_not (c := c) (by simpa using hbz) b hb e
theorem good_lod (xs : List Ac) (t : Int) : Good 2 (lodK t) (lodF t) xs := by
  refine ⟨fun _ => rfl, fun a ha hl hf hk => ?_, fun a ha hf hk b hb hne e => .inr e⟩
  have h1 := (folB_iff (.inr (.inl rfl)) hf).2.1 (.inl rfl)
  exact ⟨hl.s1, hl.s5, hl.run, hl.off, fun h => by simp only [lodF] at h; omega⟩
theorem good_blk (xs : List Ac) : Good 4 blkK blkF xs :=
  ⟨fun _ => rfl, fun a ha hl hf hk => ⟨by simp [blkF], by simp [blkF], fun h => by simp [blkF] at h, fun _ => rfl, fun h => by simp [blkF] at h⟩, fun a ha hf hk b hb hne e => .inl (by simp [blkF])⟩
theorem good_pre (xs : List Ac) (c : Cx) : Good 8 noK (preF c) xs :=
  ⟨fun _ => rfl, fun a ha hl hf hk => ⟨by simp [preF], by simp [preF], fun h => by simp [preF] at h, fun _ => rfl, fun h => by simp [preF] at h⟩, fun a ha hf hk b hb hne e => .inl (by simp [preF])⟩
theorem good_cac (xs : List Ac) : Good 16 noK cacF xs :=
  ⟨fun _ => rfl, fun a ha hl hf hk => ⟨by simp [cacF], by simp [cacF], fun h => by simp [cacF] at h, fun _ => rfl, fun _ => rfl⟩, fun a ha hf hk b hb hne e => .inl (by simp [cacF])⟩

/-- One is taken. -/
theorem Okk.take (h : Okk N σ) {j : Nat} (ho : leastO σ.ag σ.tk = some j) :
    takeE σ.ag σ.tk = 0 ∧ liveB σ.ag σ.tk (takeI σ.ag σ.tk) = false ∧ right (takeI σ.ag σ.tk) ∧ ∀ sp, Okk N ⟨takeA σ.ag σ.tk, takeT σ.ag σ.tk, insA (newA (takeI σ.ag σ.tk) sp) σ.xs⟩ := by
  obtain ⟨h1, _⟩ := leastO_iff ho
  unfold okB at h1
  simp only [Bool.and_eq_true, beq_iff_eq, decide_eq_true_eq] at h1
  obtain ⟨ht, ha⟩ := h1
  have hlt : j < N := by rw [← h.tl]; exact (List.getElem?_eq_some_iff.1 ht).1
  have hn := h.n4
  have hil : j < σ.ag.length := by rw [h.al]; exact hlt
  have hx : σ.ag[j]? = some (σ.ag.getD j 0) := by simp [List.getD_eq_getElem?_getD, hil]
  unfold takeI takeE takeA takeT
  rw [ho]
  dsimp only
  generalize hga : σ.ag.getD j 0 = a at ha hx
  obtain ⟨p1, p2, p3⟩ := idI_parts (i := j) (a := a + 1) (by omega) (by omega) (by omega)
  generalize idI (j : Int) ((a + 1 : Nat) : Int) = id at p1 p2 p3
  have hset : (σ.ag.set j (a + 1))[j]? = some (a + 1) := by rw [List.getElem?_set_self hil]
  have hsetT : (σ.tk.set j true)[j]? = some true := by rw [List.getElem?_set_self (by rw [h.tl]; exact hlt)]
  have hno : liveB σ.ag σ.tk id = false := by
    cases hv : liveB σ.ag σ.tk id
    · rfl
    · obtain ⟨_, q2, _⟩ := live_iff hv
      rw [p2, ht] at q2
      cases q2
  have hnew : ∀ b ∈ σ.xs, b.id ≠ id := fun b hb e => by
    have := (h.live b.id).2 ⟨b, hb, rfl⟩
    rw [e, hno] at this
    cases this
  have hj : ∀ x, liveB σ.ag σ.tk x = true → ix x ≠ j := fun x hv e => by
    obtain ⟨_, q2, _⟩ := live_iff hv
    rw [e, ht] at q2
    cases q2
  refine ⟨rfl, hno, p1, fun sp => ⟨insA_srt h.srt, fun x => ?_, by simpa using h.al, by simpa using h.tl, hn, fun x hx' => ?_, fun i hi => ?_, fun b hb => ?_, fun b hb c hc => ?_⟩⟩
  · constructor
    · intro hv
      obtain ⟨r1, r2, b, r3, r4⟩ := live_iff hv
      by_cases e : ix x = j
      · refine ⟨newA id sp, (mem_insA h.srt).2 (.inl rfl), ?_⟩
        show id = x
        rw [e] at r3
        have r3' : (σ.ag.set j (a + 1))[j]? = some b := r3
        rw [hset] at r3'
        have e1 := ix_eq x
        have e2 := ix_eq id
        have := Option.some.inj r3'
        omega
      · have hv' : liveB σ.ag σ.tk x = true := live_of r1 (by
            have r2' : (σ.tk.set j true)[ix x]? = some true := r2
            rw [List.getElem?_set_ne (Ne.symm e)] at r2'
            exact r2') (by
            have r3' : (σ.ag.set j (a + 1))[ix x]? = some b := r3
            rw [List.getElem?_set_ne (Ne.symm e)] at r3'
            exact r3') r4
        obtain ⟨b', hb', rfl⟩ := (h.live x).1 hv'
        exact ⟨b', (mem_insA h.srt).2 (.inr ⟨hb', hnew b' hb'⟩), rfl⟩
    · rintro ⟨b, hb, rfl⟩
      rcases (mem_insA h.srt).1 hb with rfl | ⟨hb, _⟩
      · exact live_of (x := id) p1 (by rw [p2]; exact hsetT) (by rw [p2]; exact hset) p3
      · have hv := (h.live b.id).2 ⟨b, hb, rfl⟩
        obtain ⟨r1, r2, c, r3, r4⟩ := live_iff hv
        have e := Ne.symm (hj _ hv)
        exact live_of r1 (by show (σ.tk.set j true)[ix b.id]? = _; rw [List.getElem?_set_ne e]; exact r2) (by show (σ.ag.set j (a + 1))[ix b.id]? = _; rw [List.getElem?_set_ne e]; exact r3) r4
  · rcases List.mem_or_eq_of_mem_set hx' with hx' | rfl
    · exact h.ab x hx'
    · omega
  · show 1 ≤ (σ.ag.set j (a + 1)).getD i 0
    by_cases e : j = i
    · subst e
      rw [List.getD_eq_getElem?_getD, hset]
      simp
    · rw [List.getD_eq_getElem?_getD, List.getElem?_set_ne e, ← List.getD_eq_getElem?_getD]
      refine h.age i ?_
      have hi' : (σ.tk.set j true)[i]? = some true := hi
      rw [List.getElem?_set_ne e] at hi'
      exact hi'
  · rcases (mem_insA h.srt).1 hb with rfl | ⟨hb, _⟩
    · exact ⟨by simp [newA], by simp [newA], fun h => by simp [newA] at h, fun _ => rfl, fun _ => rfl⟩
    · exact h.lc b hb
  · intro e1 e2
    rcases (mem_insA h.srt).1 hb with h3 | ⟨h3, _⟩ <;> rcases (mem_insA h.srt).1 hc with h4 | ⟨h4, _⟩
    · rw [h3, h4]
    · rw [h3] at e2
      simp [newA] at e2
    · rw [e1, h4] at e2
      simp [newA] at e2
    · exact h.cu b h3 c h4 e1 e2
theorem take_none {ag : List Nat} {tk : List Bool} (ho : leastO ag tk = none) : takeE ag tk = 3 ∧ takeI ag tk = 0 ∧ takeA ag tk = ag ∧ takeT ag tk = tk := by
  unfold takeE takeI takeA takeT
  rw [ho]
  exact ⟨rfl, rfl, rfl, rfl⟩
theorem cac_some {xs : List Ac} {sp : Int} {a : Ac} (h : cacO xs sp = some a) : a ∈ xs ∧ a.sp = sp ∧ a.st = 5 := by
  unfold cacO at h
  have := List.find?_some h
  simp at this
  exact ⟨List.mem_of_find?_eq_some h, this.1, this.2⟩
theorem Okk.make (h : Okk N σ) (sp : Int) : Okk N (mkS σ sp) := by
  unfold mkS
  by_cases hs : sp < 1 ∨ 16 < sp
  · rw [if_pos hs]
    exact h
  · rw [if_neg hs]
    cases hc : cacO σ.xs sp with
    | some a =>
      obtain ⟨ha, _, hst⟩ := cac_some hc
      have hl := h.lc a ha
      have e1 := hl.off (by omega)
      have e2 := hl.th (.inr hst)
      exact h.upd (a' := { a with st := 1 }) ha rfl ⟨by simp, by simp, fun h => by simp at h, fun _ => e1, fun _ => e2⟩ (fun b hb hne e => by show a.co < 0; omega)
    | none =>
      dsimp only
      cases ho : leastO σ.ag σ.tk with
      | none => exact h
      | some j => exact (h.take ho).2.2.2 sp
/-- One is no more. -/
theorem Okk.end_ (h : Okk N σ) {a : Ac} (ha : a ∈ σ.xs) : Okk N (endS σ a.id) := by
  have hv := (h.live a.id).2 ⟨a, ha, rfl⟩
  obtain ⟨r1, r2, c, r3, r4⟩ := live_iff hv
  have eT : freeT σ.ag σ.tk a.id = σ.tk.set (ix a.id) false := by unfold freeT; rw [hv]; rfl
  have hlt := (List.getElem?_eq_some_iff.1 r2).1
  refine ⟨remA_srt h.srt _, fun x => ?_, h.al, ?_, h.n4, h.ab, fun i hi => ?_, fun b hb => h.lc b (mem_remA.1 hb).1, fun b hb c hc => h.cu b (mem_remA.1 hb).1 c (mem_remA.1 hc).1⟩
  · show liveB σ.ag (freeT σ.ag σ.tk a.id) x = true ↔ ∃ b ∈ remA σ.xs a.id, b.id = x
    rw [eT]
    constructor
    · intro hx
      obtain ⟨q1, q2, d, q3, q4⟩ := live_iff hx
      have e : ix a.id ≠ ix x := fun e => by
        rw [← e, List.getElem?_set_self hlt] at q2
        cases q2
      rw [List.getElem?_set_ne e] at q2
      obtain ⟨b, hb, rfl⟩ := (h.live x).1 (live_of q1 q2 q3 q4)
      exact ⟨b, mem_remA.2 ⟨hb, fun e2 => e (by rw [e2])⟩, rfl⟩
    · rintro ⟨b, hb, rfl⟩
      obtain ⟨hb, hne⟩ := mem_remA.1 hb
      obtain ⟨q1, q2, d, q3, q4⟩ := live_iff ((h.live b.id).2 ⟨b, hb, rfl⟩)
      have e : ix a.id ≠ ix b.id := fun e => hne (by
        rw [← e] at q3
        rw [r3] at q3
        have e1 := ix_eq a.id
        have e2 := ix_eq b.id
        have := Option.some.inj q3
        omega)
      exact live_of q1 (by rw [List.getElem?_set_ne e]; exact q2) q3 q4
  · show (freeT σ.ag σ.tk a.id).length = N
    rw [eT]
    simpa using h.tl
  · refine h.age i ?_
    have hi' : (freeT σ.ag σ.tk a.id)[i]? = some true := hi
    rw [eT] at hi'
    by_cases e : ix a.id = i
    · rw [e, List.getElem?_set_self (by omega)] at hi'
      cases hi'
    · rw [List.getElem?_set_ne e] at hi'
      exact hi'
theorem Okk.free0 (h : Okk N σ) {a : Ac} (ha : a ∈ σ.xs) : freeE σ.ag σ.tk a.id = 0 := by
  have hv := (h.live a.id).2 ⟨a, ha, rfl⟩
  unfold freeE
  rw [live_known hv, hv]
  rfl
theorem Okk.dis (h : Okk N σ) (i : Int) : Okk N (disS σ i) := by
  unfold disS
  by_cases hc : opE 32 noK σ.xs i = 0
  · rw [if_pos hc]
    unfold opE at hc
    cases hf : fndA σ.xs i with
    | none => rw [hf] at hc; cases hc
    | some a =>
      obtain ⟨ha, rfl⟩ := fnd_some hf
      exact h.end_ ha
  · rw [if_neg hc]
    exact h
theorem Okk.drop (sp : Int) : ∀ {l : List Ac} {σ : Sta}, Okk N σ → Srt l → (∀ a ∈ l, a ∈ σ.xs) → Okk N (drpS sp l σ)
  | [], _, h, _, _ => h
  | a :: r, σ, h, hs, hl => by
    obtain ⟨h1, h2⟩ := List.pairwise_cons.1 hs
    unfold drpS
    by_cases hc : a.sp = sp
    · rw [if_pos hc]
      exact Okk.drop sp (h.end_ (hl a (by simp))) h2 (fun b hb => mem_remA.2 ⟨hl b (List.mem_cons_of_mem _ hb), by have := h1 b hb; omega⟩)
    · rw [if_neg hc]
      exact Okk.drop sp h h2 (fun b hb => hl b (List.mem_cons_of_mem _ hb))
/-- A new table. -/
theorem okk_new {N : Nat} (h2 : N ≤ 4096) : Okk N ⟨List.replicate N 0, List.replicate N false, []⟩ := by
  refine ⟨List.Pairwise.nil, fun i => ?_, by simp, by simp, h2, fun x hx => by simp at hx; omega, fun i hi => ?_, fun a ha => by simp at ha, fun a ha => by simp at ha⟩
  · constructor
    · intro hv
      obtain ⟨_, q2, _⟩ := live_iff hv
      have q2' : (List.replicate N false)[ix i]? = some true := q2
      rw [List.getElem?_replicate] at q2'
      split at q2' <;> cases q2'
    · rintro ⟨a, ha, _⟩
      simp at ha
  · have hi' : (List.replicate N false)[i]? = some true := hi
    rw [List.getElem?_replicate] at hi'
    split at hi' <;> cases hi'
end
end Go.Proofs.YtjgclehghnmhnaaDoor
