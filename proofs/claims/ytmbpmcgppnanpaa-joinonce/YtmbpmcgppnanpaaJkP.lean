/- Ends whose waiters stand in chapter 5's lists, by places: what the lists and the ids by places mean. -/
import Derived.Test.YtmbpmcgppnanpaaJnX
import Derived.Test.YtmbpmcgppnanpaaLkAsk
namespace Go.Proofs.Ytmbpmcgppnanpaa.Jn
open Go Go.RowKit Go.Proofs.Ytmbpmcgppnanpaa.Bs
open Go.Proofs.Ytmbpmcgppnanpaa.Ids (right indexI ageI idI)
set_option linter.unusedSimpArgs false

/-- A list's places; the id that waits at a place. -/
def lsN (ls : List (List Nat)) (i : Nat) : List Nat := ls.getD i []
def wtI (wt : List Int) (p : Nat) : Int := wt.getD p 0
structure Li (n : Nat) (σ : St) (ls : List (List Nat)) (wt : List Int) : Prop where
  lk : Lk.Ok n n ls
  wl : wt.length = n
  q : ∀ i, i < n → (rw σ i).q = (lsN ls i).map (wtI wt)
  ix : ∀ i, i < n → ∀ p ∈ lsN ls i, indexI (wtI wt p) = p
section
variable {σ : St} {n : Nat} {ls : List (List Nat)} {wt : List Int}
theorem lsN_get (h : Lk.Ok n n ls) {i : Nat} (hi : i < n) : ls[i]? = some (lsN ls i) := get_of (by rw [h.len]; exact hi)
theorem lsN_set (h : Lk.Ok n n ls) {i j : Nat} (hi : i < n) (q : List Nat) : lsN (ls.set i q) j = if j = i then q else lsN ls j := getD_set (by rw [h.len]; exact hi)
theorem Li.pl (h : Li n σ ls wt) {i : Nat} (hi : i < n) {x : Int} (hx : x ∈ (rw σ i).q) : ∃ p, p ∈ lsN ls i ∧ p < n ∧ indexI x = p ∧ wtI wt p = x := by
  rw [h.q i hi] at hx
  obtain ⟨p, hp, rfl⟩ := List.mem_map.1 hx
  exact ⟨p, hp, h.lk.lt i _ (lsN_get h.lk hi) p hp, h.ix i hi p hp, rfl⟩
theorem Li.mem (h : Li n σ ls wt) {i : Nat} (hi : i < n) {p : Nat} (hp : p ∈ lsN ls i) : wtI wt p ∈ (rw σ i).q := by
  rw [h.q i hi]
  exact List.mem_map.2 ⟨p, hp, rfl⟩
theorem Li.dj (h : Li n σ ls wt) {i j : Nat} (hi : i < n) (hj : j < n) {p : Nat} (h1 : p ∈ lsN ls i) (h2 : p ∈ lsN ls j) : i = j := by
  by_cases e : i = j
  · exact e
  · exact absurd h2 (h.lk.dj i j _ _ (lsN_get h.lk hi) (lsN_get h.lk hj) e p h1)
/-- Where a place stands. -/
theorem Li.wh (h : Li n σ ls wt) (p : Nat) : (Lk.whI ls p = -1 ∧ ∀ i, i < n → p ∉ lsN ls i) ∨ ∃ i : Nat, i < n ∧ p ∈ lsN ls i ∧ Lk.whI ls p = i := by
  rcases Lk.whI_cases h.lk.len p with ⟨e, hn⟩ | ⟨i, q, hq, hp, e, -⟩
  · exact .inl ⟨e, fun i hi => hn i _ (lsN_get h.lk hi)⟩
  · have hi := (List.getElem?_eq_some_iff.1 hq).1
    rw [h.lk.len] at hi
    rw [lsN_get h.lk hi] at hq
    cases hq
    exact .inr ⟨i, hi, hp, e⟩
theorem Li.atP (h : Li n σ ls wt) (H : Ok n σ) (p : Nat) : Jn.atP σ p = Lk.whI ls p := by
  rcases h.wh p with ⟨e, hn⟩ | ⟨i, hi, hp, e⟩
  · rw [e]
    refine H.atP_none (fun i hi hm => ?_)
    obtain ⟨x, hx, e2⟩ := List.mem_map.1 hm
    obtain ⟨p2, hp2, -, e3, -⟩ := h.pl hi hx
    exact hn i hi (by rwa [show p = p2 by omega])
  · rw [e]
    refine H.atP_at hi (List.mem_map.2 ⟨wtI wt p, h.mem hi hp, h.ix i hi p hp⟩) (fun j hj hm => ?_)
    obtain ⟨x, hx, e2⟩ := List.mem_map.1 hm
    obtain ⟨p2, hp2, -, e3, -⟩ := h.pl (by omega) hx
    have := h.dj hi (by omega) hp (show p ∈ lsN ls j by rwa [show p = p2 by omega])
    omega
/-- Who waits: its place stands in a list, and the id there is its own. -/
theorem Li.inR_some (h : Li n σ ls wt) (H : Ok n σ) {i p : Nat} (hi : i < n) (hp : p ∈ lsN ls i) : Jn.inR σ (wtI wt p) = some i := by
  refine H.inR_at hi (h.mem hi hp) (fun j hj hm => ?_)
  obtain ⟨p2, hp2, -, e3, -⟩ := h.pl (by omega) hm
  have e4 := h.ix i hi p hp
  have := h.dj hi (by omega) hp (show p ∈ lsN ls j by rwa [show p = p2 by omega])
  omega
theorem Li.inR_none (h : Li n σ ls wt) (H : Ok n σ) {t : Int} (hn : ∀ p : Nat, p < n → indexI t = p → wtI wt p = t → ∀ i, i < n → p ∉ lsN ls i) : Jn.inR σ t = none := by
  refine H.inR_none (fun i hi hm => ?_)
  obtain ⟨p, hp, hpn, e1, e2⟩ := h.pl hi hm
  exact hn p hpn e1 e2 i hi hp
theorem Li.inR_out (h : Li n σ ls wt) (H : Ok n σ) {t : Int} (hp : plc σ t < 0) : Jn.inR σ t = none := h.inR_none H (fun p hpn e1 _ _ _ _ => by
  unfold plc at hp
  rw [H.len, e1, if_neg (by omega)] at hp
  omega)
theorem Li.inR_other (h : Li n σ ls wt) (H : Ok n σ) {t : Int} {p : Nat} (hi : indexI t = p) (hw : wtI wt p ≠ t) : Jn.inR σ t = none := h.inR_none H (fun p2 _ e1 e2 _ _ _ => hw (by rwa [show p = p2 by omega]))
theorem Li.inR_no (h : Li n σ ls wt) (H : Ok n σ) {t : Int} {p : Nat} (hi : indexI t = p) (hw : Lk.whI ls p = -1) : Jn.inR σ t = none := h.inR_none H (fun p2 _ e1 _ i hin hm => by
  obtain rfl : p2 = p := by omega
  rcases h.wh p2 with ⟨-, hn⟩ | ⟨i, -, -, e⟩
  · exact hn i hin hm
  · omega)
theorem Li.new : Li n (Jn.new n) (List.replicate n []) (List.replicate n 0) := by
  have e : ∀ i, i < n → lsN (List.replicate n []) i = [] := fun i hi => by simp [lsN, List.getD_eq_getElem?_getD, hi]
  refine ⟨Lk.Ok.none, by simp, fun i hi => ?_, fun i hi p hp => ?_⟩
  · rw [rw_new hi, e i hi]
    rfl
  · rw [e i hi] at hp
    cases hp
/-- A row whose waiters stay. -/
theorem Li.row (h : Li n σ ls wt) (H : Ok n σ) {i : Nat} (hi : i < n) {r : Rw} (hr : r.q = (rw σ i).q) : Li n (σ.set i r) ls wt := by
  refine ⟨h.lk, h.wl, fun j hj => ?_, h.ix⟩
  rw [rw_set H hi]
  split
  · next e => rw [e, hr]; exact h.q i hi
  · exact h.q j hj
/-- A row and its list, where each place keeps its id. -/
theorem Li.set (h : Li n σ ls wt) (H : Ok n σ) {i : Nat} (hi : i < n) {r : Rw} {q : List Nat} (hk : Lk.Ok n n (ls.set i q)) (hs : ∀ p ∈ q, indexI (wtI wt p) = p) (hr : r.q = q.map (wtI wt)) : Li n (σ.set i r) (ls.set i q) wt := by
  refine ⟨hk, h.wl, fun j hj => ?_, fun j hj p hp => ?_⟩
  · rw [rw_set H hi, lsN_set h.lk hi]
    split
    · exact hr
    · exact h.q j hj
  · rw [lsN_set h.lk hi] at hp
    split at hp
    · exact hs p hp
    · exact h.ix j hj p hp
theorem wtI_set (hl : wt.length = n) {p : Nat} (hp : p < n) (x : Int) (k : Nat) : wtI (wt.set p x) k = if k = p then x else wtI wt k := getD_set (by rw [hl]; exact hp)
/-- Another id at a place that stands in no list. -/
theorem Li.id (h : Li n σ ls wt) {p : Nat} (hp : p < n) (hw : Lk.whI ls p = -1) (x : Int) : Li n σ ls (wt.set p x) := by
  have hn : ∀ i, i < n → p ∉ lsN ls i := by
    rcases h.wh p with ⟨-, hn⟩ | ⟨i, -, -, e⟩
    · exact hn
    · omega
  have e : ∀ i, i < n → ∀ k ∈ lsN ls i, wtI (wt.set p x) k = wtI wt k := fun i hi k hk => by
    rw [wtI_set h.wl hp, if_neg (fun e : k = p => hn i hi (e ▸ hk))]
  refine ⟨h.lk, by rw [List.length_set]; exact h.wl, fun i hi => ?_, fun i hi k hk => ?_⟩
  · rw [h.q i hi]
    exact List.map_congr_left (fun k hk => (e i hi k hk).symm)
  · rw [e i hi k hk]
    exact h.ix i hi k hk
/-- The steps of the calls. -/
theorem Li.start (h : Li n σ ls wt) (H : Ok n σ) (id : Int) : Li n (startS σ id) ls wt := by
  unfold startS
  split
  · next e =>
    unfold startE at e
    split at e
    · omega
    next h1 =>
    obtain ⟨i, e1, e2, e3, e4⟩ := H.plc h1
    have ha : at_ σ id = rw σ i := by unfold at_; rw [e1, Int.toNat_natCast]
    rw [ha] at e
    rw [e1, Int.toNat_natCast]
    refine h.row H e2 (H.q0 i e2 ?_).symm
    by_cases h2 : (rw σ i).id = 0
    · exact .inl h2
    · refine .inr ?_
      cases h3 : (rw σ i).en
      · rw [if_pos ⟨h2, h3⟩] at e
        omega
      · rfl
  · exact h
theorem Li.fin (h : Li n σ ls wt) (H : Ok n σ) {id : Int} {k : Nat} (v : Int) (hs : stI σ id = 1) (hk : Jn.plc σ id = k) : Li n (endS σ id v) (ls.set k []) wt ∧ endL σ id = (lsN ls k).map (wtI wt) := by
  obtain ⟨i, e1, hi, -, -, ea, -, -⟩ := H.st1 hs
  obtain rfl : i = k := by omega
  unfold endS endL
  rw [if_pos hs, if_pos hs, e1, Int.toNat_natCast, ea]
  exact ⟨h.set H hi (h.lk.set (fun t ht => by cases ht) List.nodup_nil (fun _ _ _ _ t ht => by cases ht)) (fun p hp => by cases hp) rfl, h.q i hi⟩
theorem Li.wait (h : Li n σ ls wt) (H : Ok n σ) {t : Int} {k p : Nat} (hk : k < n) (hp : p < n) (hw : Lk.whI ls p = -1) (ht : indexI t = p) (r : Rw) (hr : r.q = (rw σ k).q ++ [t]) : Li n (σ.set k r) (ls.set k (lsN ls k ++ [p])) (wt.set p t) := by
  have h2 := h.id hp hw t
  have hn : ∀ i, i < n → p ∉ lsN ls i := by
    rcases h.wh p with ⟨-, hn⟩ | ⟨i, -, -, e⟩
    · exact hn
    · omega
  have hp2 : wtI (wt.set p t) p = t := by rw [wtI_set h.wl hp, if_pos rfl]
  refine h2.set H hk (h.lk.set (fun x hx => ?_) ?_ (fun j q hq hj x hx => ?_)) (fun x hx => ?_) ?_
  · rcases List.mem_append.1 hx with hx | hx
    · exact h.lk.lt k _ (lsN_get h.lk hk) x hx
    · rw [List.mem_singleton.1 hx]
      exact hp
  · rw [List.nodup_append]
    exact ⟨h.lk.nd k _ (lsN_get h.lk hk), by simp, fun a ha b hb e => hn k hk (by rw [← List.mem_singleton.1 hb, ← e]; exact ha)⟩
  · have hjn := (List.getElem?_eq_some_iff.1 hq).1
    rw [h.lk.len] at hjn
    rcases List.mem_append.1 hx with hx | hx
    · exact h.lk.dj k j _ q (lsN_get h.lk hk) hq (fun e => hj e.symm) x hx
    · rw [List.mem_singleton.1 hx]
      rw [lsN_get h.lk hjn] at hq
      cases hq
      exact hn j hjn
  · rcases List.mem_append.1 hx with hx | hx
    · exact h2.ix k hk x hx
    · rw [List.mem_singleton.1 hx, hp2]
      exact ht
  · rw [hr, h2.q k hk, List.map_append, List.map_cons, List.map_nil, hp2]
theorem Li.rem (h : Li n σ ls wt) (H : Ok n σ) {t : Int} {k p : Nat} (hk : k < n) (hp : p ∈ lsN ls k) (ht : wtI wt p = t) : Li n (dropS σ t) (ls.set k ((lsN ls k).filter (fun y => !(y == p)))) wt := by
  have e : Jn.inR σ t = some k := ht ▸ h.inR_some H hk hp
  have hsub : ((lsN ls k).filter (fun y => !(y == p))).Sublist (lsN ls k) := List.filter_sublist
  unfold dropS
  rw [e]
  refine h.set H hk (h.lk.set (fun x hx => h.lk.lt k _ (lsN_get h.lk hk) x (hsub.mem hx)) ((h.lk.nd k _ (lsN_get h.lk hk)).sublist hsub) (fun j q hq hj x hx => h.lk.dj k j _ q (lsN_get h.lk hk) hq (fun e => hj e.symm) x (hsub.mem hx))) (fun x hx => h.ix k hk x (hsub.mem hx)) ?_
  show out t (rw σ k).q = _
  rw [h.q k hk]
  unfold out
  rw [List.filter_map]
  congr 1
  refine List.filter_congr (fun x hx => ?_)
  show (!(wtI wt x == t)) = !(x == p)
  by_cases ex : x = p
  · rw [ex, ht]
    simp
  · have hne : wtI wt x ≠ t := fun e2 => by
      have h1 := h.ix k hk x hx
      have h2 := h.ix k hk p hp
      rw [e2, ← ht] at h1
      omega
    rw [beq_eq_false_iff_ne.2 hne, beq_eq_false_iff_ne.2 ex]
end
end Go.Proofs.Ytmbpmcgppnanpaa.Jn
