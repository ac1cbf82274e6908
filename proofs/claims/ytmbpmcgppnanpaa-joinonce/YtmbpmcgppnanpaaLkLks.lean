/- Lists as rings of numbers: what a put and a take make of them; where a thing stands. -/
import Derived.ProofKit
namespace Go.Proofs.Ytmbpmcgppnanpaa.Lk

/-- From a on, by the things of a list, to e: each knows who follows, and who is ahead. -/
def Lk (nx pv : List Nat) : Nat → List Nat → Nat → Prop
  | a, [], e => nx[a]? = some e ∧ pv[e]? = some a
  | a, x :: t, e => (nx[a]? = some x ∧ pv[x]? = some a) ∧ Lk nx pv x t e

theorem Lk.congr {nx pv nx' pv' : List Nat} : ∀ {q : List Nat} {a e : Nat}, Lk nx pv a q e → (∀ x ∈ a :: q, nx'[x]? = nx[x]?) → (∀ x ∈ q ++ [e], pv'[x]? = pv[x]?) → Lk nx' pv' a q e
  | [], a, e, h, h1, h2 => ⟨(h1 a (by simp)).trans h.1, (h2 e (by simp)).trans h.2⟩
  | x :: t, a, e, h, h1, h2 => ⟨⟨(h1 a (by simp)).trans h.1.1, (h2 x (by simp)).trans h.1.2⟩, Lk.congr h.2 (fun y hy => h1 y (List.mem_cons_of_mem _ hy)) (fun y hy => h2 y (by rw [List.cons_append]; exact List.mem_cons_of_mem _ hy))⟩

/-- The last one of a and a list's things. -/
def lastN : Nat → List Nat → Nat
  | a, [] => a
  | _, x :: t => lastN x t
/-- The first one of a list's things and e. -/
def headN : List Nat → Nat → Nat
  | [], e => e
  | x :: _, _ => x

theorem lastN_mem : ∀ (q : List Nat) (a : Nat), lastN a q ∈ a :: q
  | [], a => by simp [lastN]
  | x :: t, a => by
    have := lastN_mem t x
    exact List.mem_cons_of_mem _ this
theorem lastN_append (x : Nat) : ∀ (q : List Nat) (a : Nat), lastN a (q ++ [x]) = x
  | [], _ => rfl
  | y :: t, _ => lastN_append x t y
theorem headN_mem (q : List Nat) (e : Nat) : headN q e ∈ q ++ [e] := by cases q <;> simp [headN]

theorem Lk.split {nx pv : List Nat} : ∀ {pre post : List Nat} {a e : Nat}, Lk nx pv a (pre ++ post) e → nx[lastN a pre]? = some (headN post e) ∧ pv[headN post e]? = some (lastN a pre)
  | [], [], _, _, h => h
  | [], _ :: _, _, _, h => h.1
  | _ :: pre, post, _, _, h => Lk.split (pre := pre) (post := post) h.2

theorem Lk.ins {nx pv nx' pv' : List Nat} {t : Nat} : ∀ {pre post : List Nat} {a e : Nat}, Lk nx pv a (pre ++ post) e → (a :: (pre ++ post)).Nodup → ((pre ++ post) ++ [e]).Nodup → t ∉ a :: (pre ++ post) → t ∉ (pre ++ post) ++ [e] →
    nx'[lastN a pre]? = some t → nx'[t]? = some (headN post e) → (∀ x, x ≠ lastN a pre → x ≠ t → nx'[x]? = nx[x]?) →
    pv'[t]? = some (lastN a pre) → pv'[headN post e]? = some t → (∀ x, x ≠ headN post e → x ≠ t → pv'[x]? = pv[x]?) → Lk nx' pv' a (pre ++ t :: post) e
  | [], [], a, e, h, n1, n2, m1, m2, h1, h2, h3, k1, k2, k3 => ⟨⟨h1, k1⟩, h2, k2⟩
  | [], b :: r, a, e, h, n1, n2, m1, m2, h1, h2, h3, k1, k2, k3 => by
    refine ⟨⟨h1, k1⟩, ⟨h2, k2⟩, h.2.congr (fun x hx => h3 x ?_ ?_) (fun x hx => k3 x ?_ ?_)⟩
    · rintro rfl; exact (List.nodup_cons.1 n1).1 hx
    · rintro rfl; exact m1 (List.mem_cons_of_mem _ hx)
    · rintro rfl; exact (List.nodup_cons.1 n2).1 hx
    · rintro rfl; exact m2 (List.mem_cons_of_mem _ hx)
  | x :: pre, post, a, e, h, n1, n2, m1, m2, h1, h2, h3, k1, k2, k3 => by
    have hx1 : a ≠ lastN x pre := by
      intro he
      apply (List.nodup_cons.1 n1).1
      rw [he]
      have := lastN_mem pre x
      rw [List.cons_append]
      rcases List.mem_cons.1 this with h | h
      · rw [h]; simp
      · exact List.mem_cons_of_mem _ (List.mem_append_left _ h)
    have hx2 : x ≠ headN post e := by
      intro he
      rw [List.cons_append, List.cons_append] at n2
      apply (List.nodup_cons.1 n2).1
      rw [he, List.append_assoc]
      exact List.mem_append_right _ (headN_mem post e)
    refine ⟨⟨(h3 a hx1 ?_).trans h.1.1, (k3 x hx2 ?_).trans h.1.2⟩, ?_⟩
    · rintro rfl; exact m1 (by simp)
    · rintro rfl; exact m2 (by simp)
    · refine Lk.ins (pre := pre) (post := post) h.2 (List.nodup_cons.1 n1).2 ?_ (fun hm => m1 (List.mem_cons_of_mem _ hm)) (fun hm => m2 ?_) h1 h2 h3 k1 k2 k3
      · rw [List.cons_append, List.cons_append] at n2
        exact (List.nodup_cons.1 n2).2
      · rw [List.cons_append, List.cons_append]
        exact List.mem_cons_of_mem _ hm

theorem Lk.del {nx pv nx' pv' : List Nat} {t : Nat} : ∀ {pre post : List Nat} {a e : Nat}, Lk nx pv a (pre ++ t :: post) e → (a :: (pre ++ t :: post)).Nodup → ((pre ++ t :: post) ++ [e]).Nodup →
    nx'[lastN a pre]? = some (headN post e) → (∀ x, x ≠ lastN a pre → nx'[x]? = nx[x]?) →
    pv'[headN post e]? = some (lastN a pre) → (∀ x, x ≠ headN post e → pv'[x]? = pv[x]?) → Lk nx' pv' a (pre ++ post) e
  | [], [], a, e, h, n1, n2, h1, h3, k2, k3 => ⟨h1, k2⟩
  | [], b :: r, a, e, h, n1, n2, h1, h3, k2, k3 => by
    refine ⟨⟨h1, k2⟩, h.2.2.congr (fun x hx => h3 x ?_) (fun x hx => k3 x ?_)⟩
    · rintro rfl; exact (List.nodup_cons.1 n1).1 (List.mem_cons_of_mem _ hx)
    · rintro rfl; exact (List.nodup_cons.1 (List.nodup_cons.1 n2).2).1 hx
  | x :: pre, post, a, e, h, n1, n2, h1, h3, k2, k3 => by
    have hx1 : a ≠ lastN x pre := by
      intro he
      apply (List.nodup_cons.1 n1).1
      rw [he]
      have := lastN_mem pre x
      rw [List.cons_append]
      rcases List.mem_cons.1 this with h | h
      · rw [h]; simp
      · exact List.mem_cons_of_mem _ (List.mem_append_left _ h)
    have hx2 : x ≠ headN post e := by
      intro he
      rw [List.cons_append, List.cons_append] at n2
      apply (List.nodup_cons.1 n2).1
      rw [he, List.append_assoc]
      exact List.mem_append_right _ (List.mem_cons_of_mem _ (headN_mem post e))
    refine ⟨⟨(h3 a hx1).trans h.1.1, (k3 x hx2).trans h.1.2⟩, ?_⟩
    refine Lk.del (pre := pre) (post := post) h.2 (List.nodup_cons.1 n1).2 ?_ h1 h3 k2 k3
    rw [List.cons_append, List.cons_append] at n2
    exact (List.nodup_cons.1 n2).2

/-- Who is the j-th one of a list, from a on. -/
theorem Lk.step {nx pv : List Nat} : ∀ {q : List Nat} {a e : Nat}, Lk nx pv a q e → ∀ j, j < q.length → nx[(a :: q).getD j 0]? = some (q.getD j 0)
  | [], _, _, _, j, hj => by simp at hj
  | x :: t, a, e, h, 0, _ => h.1.1
  | x :: t, a, e, h, j + 1, hj => Lk.step h.2 j (by simpa using hj)

/-- Lists over N things, of which each stands in one at most, once. -/
structure Ok (N L : Nat) (ls : List (List Nat)) : Prop where
  len : ls.length = L
  lt : ∀ (i : Nat) (q : List Nat), ls[i]? = some q → ∀ t ∈ q, t < N
  nd : ∀ (i : Nat) (q : List Nat), ls[i]? = some q → q.Nodup
  dj : ∀ (i j : Nat) (p q : List Nat), ls[i]? = some p → ls[j]? = some q → i ≠ j → ∀ t ∈ p, t ∉ q

/-- The rings of all lists; a list's own end has a number behind the things'. -/
structure Rep (N L : Nat) (nx pv : List Nat) (ls : List (List Nat)) : Prop where
  ok : Ok N L ls
  nxl : nx.length = N + L
  pvl : pv.length = N + L
  lk : ∀ (i : Nat) (q : List Nat), ls[i]? = some q → Lk nx pv (N + i) q (N + i)

theorem Ok.none {N L : Nat} : Ok N L (List.replicate L []) := by
  have h : ∀ i (q : List Nat), (List.replicate L ([] : List Nat))[i]? = some q → q = [] := fun i q hq => by
    obtain ⟨_, e⟩ := List.getElem?_eq_some_iff.1 hq
    simpa using e.symm
  refine ⟨by simp, fun i q hq => ?_, fun i q hq => ?_, fun i j p q hp hq _ t ht => ?_⟩
  · rw [h i q hq]; simp
  · rw [h i q hq]; simp
  · rw [h i p hp] at ht; simp at ht

theorem get_set {ls : List (List Nat)} {i j : Nat} {p q : List Nat} (h : (ls.set i p)[j]? = some q) : (j = i ∧ q = p) ∨ (j ≠ i ∧ ls[j]? = some q) := by
  by_cases hij : j = i
  · subst hij
    rw [List.getElem?_set_self'] at h
    cases hq : ls[j]? with
    | none => simp [hq] at h
    | some u => simp [hq] at h; exact .inl ⟨rfl, h.symm⟩
  · rw [List.getElem?_set_ne (Ne.symm hij)] at h
    exact .inr ⟨hij, h⟩

/-- A list with other things, that stand in none of the others. -/
theorem Ok.set {N L : Nat} {ls : List (List Nat)} (h : Ok N L ls) {i : Nat} {p : List Nat} (h1 : ∀ t ∈ p, t < N) (h2 : p.Nodup) (h3 : ∀ (j : Nat) (q : List Nat), ls[j]? = some q → j ≠ i → ∀ t ∈ p, t ∉ q) : Ok N L (ls.set i p) := by
  refine ⟨by simpa using h.len, fun j q hq => ?_, fun j q hq => ?_, fun j k a b ha hb hjk t ht hu => ?_⟩
  · rcases get_set hq with ⟨rfl, rfl⟩ | ⟨_, hq⟩
    · exact h1
    · exact h.lt j q hq
  · rcases get_set hq with ⟨rfl, rfl⟩ | ⟨_, hq⟩
    · exact h2
    · exact h.nd j q hq
  · rcases get_set ha with ⟨rfl, rfl⟩ | ⟨h4, ha'⟩ <;> rcases get_set hb with ⟨rfl, rfl⟩ | ⟨h5, hb'⟩
    · exact hjk rfl
    · exact h3 k b hb' h5 t ht hu
    · exact h3 j a ha' h4 t hu ht
    · exact h.dj j k a b ha' hb' hjk t ht hu

theorem Rep.ends {N L : Nat} {nx pv : List Nat} {ls : List (List Nat)} (h : Rep N L nx pv ls) {i : Nat} {q : List Nat} (hq : ls[i]? = some q) : ((N + i) :: q).Nodup ∧ (q ++ [N + i]).Nodup := by
  have h1 : N + i ∉ q := fun hm => by have := h.ok.lt i q hq _ hm; omega
  have h2 := h.ok.nd i q hq
  refine ⟨List.nodup_cons.2 ⟨h1, h2⟩, ?_⟩
  rw [List.nodup_append]
  refine ⟨h2, by simp, fun a ha b hb => ?_⟩
  rintro rfl
  simp at hb
  subst hb
  exact h1 ha

/-- What stands in one list, or is its end, is not in another one, nor its end. -/
theorem Rep.apart {N L : Nat} {nx pv : List Nat} {ls : List (List Nat)} (h : Rep N L nx pv ls) {i j : Nat} {p q : List Nat} (hp : ls[i]? = some p) (hq : ls[j]? = some q) (hij : i ≠ j) {x : Nat} (hx : x ∈ (N + i) :: p) : x ∉ (N + j) :: q := by
  intro hm
  rcases List.mem_cons.1 hx with rfl | hx <;> rcases List.mem_cons.1 hm with hm | hm
  · omega
  · have := h.ok.lt j q hq _ hm; omega
  · subst hm; have := h.ok.lt i p hp _ hx; omega
  · exact h.ok.dj i j p q hp hq hij x hx hm

theorem Rep.put {N L : Nat} {nx pv : List Nat} {ls : List (List Nat)} (h : Rep N L nx pv ls) {i t : Nat} {pre post : List Nat} (hq : ls[i]? = some (pre ++ post)) (ht : t < N) (hn : ∀ (j : Nat) (q : List Nat), ls[j]? = some q → t ∉ q) :
    Rep N L ((nx.set (lastN (N + i) pre) t).set t (headN post (N + i))) ((pv.set t (lastN (N + i) pre)).set (headN post (N + i)) t) (ls.set i (pre ++ t :: post)) := by
  obtain ⟨e1, e2⟩ := h.ends hq
  have hi : i < L := by have := (List.getElem?_eq_some_iff.1 hq).1; rw [h.ok.len] at this; exact this
  have ht1 : t ∉ (N + i) :: (pre ++ post) := fun hm => by
    rcases List.mem_cons.1 hm with hm | hm
    · omega
    · exact hn i _ hq hm
  have ht2 : t ∉ (pre ++ post) ++ [N + i] := fun hm => by
    rcases List.mem_append.1 hm with hm | hm
    · exact hn i _ hq hm
    · simp at hm; omega
  have hl1 : lastN (N + i) pre ∈ (N + i) :: (pre ++ post) := by
    rcases List.mem_cons.1 (lastN_mem pre (N + i)) with h | h
    · rw [h]; simp
    · exact List.mem_cons_of_mem _ (List.mem_append_left _ h)
  have hh1 : headN post (N + i) ∈ (N + i) :: (pre ++ post) := by
    rcases List.mem_append.1 (headN_mem post (N + i)) with h | h
    · exact List.mem_cons_of_mem _ (List.mem_append_right _ h)
    · simp at h; rw [h]; simp
  have hb : ∀ x ∈ (N + i) :: (pre ++ post), x < N + L := fun x hx => by
    rcases List.mem_cons.1 hx with rfl | hx
    · omega
    · have := h.ok.lt i _ hq x hx; omega
  have hpl : t ≠ lastN (N + i) pre := fun e => ht1 (e ▸ hl1)
  have hph : t ≠ headN post (N + i) := fun e => ht1 (e ▸ hh1)
  have bl := hb _ hl1
  have bh := hb _ hh1
  refine ⟨h.ok.set ?_ ?_ ?_, by simpa using h.nxl, by simpa using h.pvl, fun j q hj => ?_⟩
  · intro x hx
    rcases List.mem_append.1 hx with hx | hx
    · exact h.ok.lt i _ hq x (List.mem_append_left _ hx)
    · rcases List.mem_cons.1 hx with rfl | hx
      · exact ht
      · exact h.ok.lt i _ hq x (List.mem_append_right _ hx)
  · have hp : (pre ++ t :: post).Perm (t :: (pre ++ post)) := List.perm_middle
    rw [hp.nodup_iff]
    exact List.nodup_cons.2 ⟨fun hm => ht1 (List.mem_cons_of_mem _ hm), h.ok.nd i _ hq⟩
  · intro j q hj hji x hx
    rcases List.mem_append.1 hx with hx | hx
    · exact h.ok.dj i j _ q hq hj (Ne.symm hji) x (List.mem_append_left _ hx)
    · rcases List.mem_cons.1 hx with rfl | hx
      · exact hn j q hj
      · exact h.ok.dj i j _ q hq hj (Ne.symm hji) x (List.mem_append_right _ hx)
  · rcases get_set hj with ⟨rfl, rfl⟩ | ⟨hji, hj'⟩
    · clear hj
      refine (h.lk j _ hq).ins e1 e2 ht1 ht2 ?_ ?_ ?_ ?_ ?_ ?_
      · rw [List.getElem?_set_ne hpl, List.getElem?_set_self (by rw [h.nxl]; exact bl)]
      · rw [List.getElem?_set_self (by simp [h.nxl]; omega)]
      · intro x h1 h2
        rw [List.getElem?_set_ne (Ne.symm h2), List.getElem?_set_ne (Ne.symm h1)]
      · rw [List.getElem?_set_ne (Ne.symm hph), List.getElem?_set_self (by rw [h.pvl]; omega)]
      · rw [List.getElem?_set_self (by simp [h.pvl]; omega)]
      · intro x h1 h2
        rw [List.getElem?_set_ne (Ne.symm h1), List.getElem?_set_ne (Ne.symm h2)]
    · clear hj
      have hj := hj'
      have ha : ∀ x ∈ (N + j) :: q, x ≠ t ∧ x ≠ lastN (N + i) pre ∧ x ≠ headN post (N + i) := fun x hx => by
        refine ⟨?_, ?_, ?_⟩
        · rintro rfl
          rcases List.mem_cons.1 hx with hx | hx
          · omega
          · exact hn j q hj hx
        · rintro rfl
          exact h.apart hq hj (Ne.symm hji) hl1 hx
        · rintro rfl
          exact h.apart hq hj (Ne.symm hji) hh1 hx
      refine (h.lk j q hj).congr (fun x hx => ?_) (fun x hx => ?_)
      · obtain ⟨a1, a2, a3⟩ := ha x hx
        rw [List.getElem?_set_ne (Ne.symm a1), List.getElem?_set_ne (Ne.symm a2)]
      · obtain ⟨a1, a2, a3⟩ := ha x (by simp at hx; rcases hx with hx | hx <;> simp [hx])
        rw [List.getElem?_set_ne (Ne.symm a3), List.getElem?_set_ne (Ne.symm a1)]

theorem Rep.take {N L : Nat} {nx pv : List Nat} {ls : List (List Nat)} (h : Rep N L nx pv ls) {i t : Nat} {pre post : List Nat} (hq : ls[i]? = some (pre ++ t :: post)) :
    Rep N L (nx.set (lastN (N + i) pre) (headN post (N + i))) (pv.set (headN post (N + i)) (lastN (N + i) pre)) (ls.set i (pre ++ post)) := by
  obtain ⟨e1, e2⟩ := h.ends hq
  have hi : i < L := by have := (List.getElem?_eq_some_iff.1 hq).1; rw [h.ok.len] at this; exact this
  have hl1 : lastN (N + i) pre ∈ (N + i) :: (pre ++ t :: post) := by
    rcases List.mem_cons.1 (lastN_mem pre (N + i)) with h | h
    · rw [h]; simp
    · exact List.mem_cons_of_mem _ (List.mem_append_left _ h)
  have hh1 : headN post (N + i) ∈ (N + i) :: (pre ++ t :: post) := by
    rcases List.mem_append.1 (headN_mem post (N + i)) with h | h
    · exact List.mem_cons_of_mem _ (List.mem_append_right _ (List.mem_cons_of_mem _ h))
    · simp at h; rw [h]; simp
  have hb : ∀ x ∈ (N + i) :: (pre ++ t :: post), x < N + L := fun x hx => by
    rcases List.mem_cons.1 hx with rfl | hx
    · omega
    · have := h.ok.lt i _ hq x hx; omega
  have bl := hb _ hl1
  have bh := hb _ hh1
  have hsub : ∀ x, x ∈ pre ++ post → x ∈ pre ++ t :: post := fun x hx => by
    rcases List.mem_append.1 hx with hx | hx
    · exact List.mem_append_left _ hx
    · exact List.mem_append_right _ (List.mem_cons_of_mem _ hx)
  refine ⟨h.ok.set (fun x hx => h.ok.lt i _ hq x (hsub x hx)) ?_ (fun j q hj hji x hx => h.ok.dj i j _ q hq hj (Ne.symm hji) x (hsub x hx)), by simpa using h.nxl, by simpa using h.pvl, fun j q hj => ?_⟩
  · have hp : (pre ++ t :: post).Perm (t :: (pre ++ post)) := List.perm_middle
    have := h.ok.nd i _ hq
    rw [hp.nodup_iff] at this
    exact (List.nodup_cons.1 this).2
  · rcases get_set hj with ⟨rfl, rfl⟩ | ⟨hji, hj⟩
    · refine (h.lk j _ hq).del e1 e2 ?_ ?_ ?_ ?_
      · rw [List.getElem?_set_self (by rw [h.nxl]; exact bl)]
      · intro x h1
        rw [List.getElem?_set_ne (Ne.symm h1)]
      · rw [List.getElem?_set_self (by rw [h.pvl]; exact bh)]
      · intro x h1
        rw [List.getElem?_set_ne (Ne.symm h1)]
    · have ha : ∀ x ∈ (N + j) :: q, x ≠ lastN (N + i) pre ∧ x ≠ headN post (N + i) := fun x hx => by
        refine ⟨?_, ?_⟩
        · rintro rfl
          exact h.apart hq hj (Ne.symm hji) hl1 hx
        · rintro rfl
          exact h.apart hq hj (Ne.symm hji) hh1 hx
      refine (h.lk j q hj).congr (fun x hx => ?_) (fun x hx => ?_)
      · rw [List.getElem?_set_ne (Ne.symm (ha x hx).1)]
      · rw [List.getElem?_set_ne (Ne.symm (ha x (by simp at hx; rcases hx with hx | hx <;> simp [hx])).2)]

/-- The list in which a thing stands, from list k on; -1 of none. -/
def whF : List (List Nat) → Nat → Int → Int
  | [], _, _ => -1
  | q :: r, t, k => if t ∈ q then k else whF r t (k + 1)
def whI (ls : List (List Nat)) (t : Nat) : Int := whF ls t 0

theorem whF_cases (t : Nat) : ∀ (ls : List (List Nat)) (k : Int), (whF ls t k = -1 ∧ ∀ (i : Nat) (q : List Nat), ls[i]? = some q → t ∉ q) ∨ ∃ (i : Nat) (q : List Nat), ls[i]? = some q ∧ t ∈ q ∧ whF ls t k = k + (i : Nat)
  | [], k => .inl ⟨rfl, fun i q h => by simp at h⟩
  | q :: r, k => by
    unfold whF
    by_cases h : t ∈ q
    · rw [if_pos h]
      exact .inr ⟨0, q, rfl, h, by simp⟩
    · rw [if_neg h]
      rcases whF_cases t r (k + 1) with ⟨e, hn⟩ | ⟨i, p, hp, ht, e⟩
      · refine .inl ⟨e, fun i p hp => ?_⟩
        cases i with
        | zero => simp at hp; subst hp; exact h
        | succ i => exact hn i p hp
      · refine .inr ⟨i + 1, p, hp, ht, ?_⟩
        rw [e]
        simp
        omega
theorem whI_none {ls : List (List Nat)} {t : Nat} (h : ∀ (i : Nat) (q : List Nat), ls[i]? = some q → t ∉ q) : whI ls t = -1 := by
  rcases whF_cases t ls 0 with ⟨e, _⟩ | ⟨i, q, hq, ht, _⟩
  · exact e
  · exact absurd ht (h i q hq)
theorem whI_some {N L : Nat} {ls : List (List Nat)} (ho : Ok N L ls) {i t : Nat} {q : List Nat} (hq : ls[i]? = some q) (ht : t ∈ q) : whI ls t = i := by
  rcases whF_cases t ls 0 with ⟨e, h⟩ | ⟨j, p, hp, hu, e⟩
  · exact absurd ht (h i q hq)
  · unfold whI
    rw [e]
    by_cases hij : i = j
    · omega
    · exact absurd hu (ho.dj i j q p hq hp hij t ht)
theorem whI_cases {L : Nat} {ls : List (List Nat)} (hl : ls.length = L) (t : Nat) : (whI ls t = -1 ∧ ∀ (i : Nat) (q : List Nat), ls[i]? = some q → t ∉ q) ∨ ∃ (i : Nat) (q : List Nat), ls[i]? = some q ∧ t ∈ q ∧ whI ls t = (i : Nat) ∧ i < L := by
  rcases whF_cases t ls 0 with h | ⟨i, q, hq, ht, e⟩
  · exact .inl h
  · refine .inr ⟨i, q, hq, ht, ?_, ?_⟩
    · unfold whI; omega
    · rw [← hl]; exact (List.getElem?_eq_some_iff.1 hq).1
theorem whI_other {N L : Nat} {ls : List (List Nat)} (ho : Ok N L ls) {i : Nat} {p q : List Nat} (ho' : Ok N L (ls.set i p)) (hq : ls[i]? = some q) {x : Nat} (h : x ∈ p ↔ x ∈ q) : whI (ls.set i p) x = whI ls x := by
  rcases whI_cases ho.len x with ⟨e, hn⟩ | ⟨j, r, hr, hx, e, _⟩
  · rw [e]
    refine whI_none fun j r hr => ?_
    rcases get_set hr with ⟨rfl, rfl⟩ | ⟨_, hr⟩
    · exact fun hm => hn j q hq (h.1 hm)
    · exact hn j r hr
  · rw [e]
    by_cases hij : j = i
    · subst hij
      rw [hq] at hr
      cases hr
      exact whI_some ho' (i := j) (List.getElem?_set_self (List.getElem?_eq_some_iff.1 hq).1) (h.2 hx)
    · exact whI_some ho' (i := j) (by rw [List.getElem?_set_ne (Ne.symm hij)]; exact hr) hx

/-- Where all things stand. -/
def whL (N : Nat) (ls : List (List Nat)) : List Int := (List.range N).map (whI ls)
theorem whL_get {N : Nat} {ls : List (List Nat)} {t : Nat} (ht : t < N) : (whL N ls)[t]? = some (whI ls t) := by simp [whL, ht]
theorem whL_set {N : Nat} {ls ls' : List (List Nat)} {t : Nat} {v : Int} (h1 : whI ls' t = v) (h2 : ∀ x, x ≠ t → whI ls' x = whI ls x) : (whL N ls).set t v = whL N ls' := by
  apply List.ext_getElem?
  intro k
  by_cases hk : k < N
  · rw [whL_get hk]
    by_cases e : k = t
    · subst e
      rw [List.getElem?_set_self (by simp [whL, hk]), h1]
    · rw [List.getElem?_set_ne (Ne.symm e), whL_get hk, h2 k e]
  · rw [List.getElem?_eq_none (by simp [whL]; omega), List.getElem?_eq_none (by simp [whL]; omega)]

/-- How many things lists have. -/
def ctL (ls : List (List Nat)) : List Nat := ls.map List.length
theorem ctL_get {ls : List (List Nat)} {i : Nat} {q : List Nat} (h : ls[i]? = some q) : (ctL ls)[i]? = some q.length := by simp [ctL, h]
theorem ctL_set (ls : List (List Nat)) (i : Nat) (p : List Nat) : (ctL ls).set i p.length = ctL (ls.set i p) := by simp [ctL, List.map_set]

theorem Rep.put_wh {N L : Nat} {nx pv : List Nat} {ls : List (List Nat)} (h : Rep N L nx pv ls) {i t : Nat} {pre post : List Nat} (hq : ls[i]? = some (pre ++ post)) (ht : t < N) (hn : ∀ (j : Nat) (q : List Nat), ls[j]? = some q → t ∉ q) :
    (whL N ls).set t (i : Nat) = whL N (ls.set i (pre ++ t :: post)) := by
  have hr := (h.put hq ht hn).ok
  refine whL_set (whI_some hr (List.getElem?_set_self (List.getElem?_eq_some_iff.1 hq).1) (by simp)) (fun x hx => whI_other h.ok hr hq ?_)
  simp [hx]
theorem Rep.take_wh {N L : Nat} {nx pv : List Nat} {ls : List (List Nat)} (h : Rep N L nx pv ls) {i t : Nat} {pre post : List Nat} (hq : ls[i]? = some (pre ++ t :: post)) :
    (whL N ls).set t (-1) = whL N (ls.set i (pre ++ post)) := by
  have hr := (h.take hq).ok
  have hp : (pre ++ t :: post).Perm (t :: (pre ++ post)) := List.perm_middle
  have hnd := h.ok.nd i _ hq
  rw [hp.nodup_iff] at hnd
  refine whL_set (whI_none fun j q hj => ?_) (fun x hx => whI_other h.ok hr hq ?_)
  · rcases get_set hj with ⟨rfl, rfl⟩ | ⟨hji, hj⟩
    · exact (List.nodup_cons.1 hnd).1
    · exact h.ok.dj i j _ q hq hj (Ne.symm hji) t (by simp)
  · simp [hx]

end Go.Proofs.Ytmbpmcgppnanpaa.Lk
