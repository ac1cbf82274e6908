/- Activations, plain: rows of them by rising ids; what may follow a state; what calls tell and leave. -/
import Derived.Test.YtjgclehghnmhnaaDoorSOnM
namespace Go.Proofs.YtjgclehghnmhnaaDoor
open Go Go.RowKit

/-- An activation. -/
structure Ac where
  id : Int
  st : Int
  sp : Int
  co : Int
  th : Int
  pg : Int
  pc : Int
  rs : Nat → Int
  dp : Int
/-- A context. -/
structure Cx where
  pg : Int
  pc : Int
  rs : Nat → Int
  dp : Int
def zA : Ac := ⟨0, 0, 0, 0, 0, 0, 0, fun _ => 0, 0⟩
/-- Its numbers, in their order. -/
def acI (a : Ac) : List Int := [a.id, a.st, a.sp, a.co, a.th, a.pg, a.pc, a.rs 0, a.rs 1, a.rs 2, a.rs 3, a.rs 4, a.rs 5, a.rs 6, a.rs 7, a.dp]
def eqA (a b : Ac) : Bool := decide (acI a = acI b)
theorem eqA_refl (a : Ac) : eqA a a = true := by simp [eqA]
def ac (xs : List Ac) (j : Nat) : Ac := xs.getD j zA
theorem ac_get {xs : List Ac} {j : Nat} (h : j < xs.length) : xs[j]? = some (ac xs j) := by
  unfold ac
  rw [List.getD_eq_getElem?_getD, List.getElem?_eq_getElem h]
  rfl
theorem ac_of {xs : List Ac} {j : Nat} {a : Ac} (h : xs[j]? = some a) : ac xs j = a := by
  unfold ac
  rw [List.getD_eq_getElem?_getD, h]
  rfl
theorem ac_mem {xs : List Ac} {j : Nat} (h : j < xs.length) : ac xs j ∈ xs := List.mem_of_getElem? (ac_get h)
theorem ac_drop {xs : List Ac} {j : Nat} (h : j < xs.length) : xs.drop j = ac xs j :: xs.drop (j + 1) := by
  rw [List.drop_eq_getElem_cons h]
  have := ac_get h
  rw [List.getElem?_eq_getElem h] at this
  rw [Option.some.inj this]

/-- By rising ids. -/
def Srt (xs : List Ac) : Prop := xs.Pairwise (fun a b => a.id < b.id)
def fndA (xs : List Ac) (i : Int) : Option Ac := xs.find? (fun a => a.id == i)
theorem fnd_some {xs : List Ac} {i : Int} {a : Ac} (h : fndA xs i = some a) : a ∈ xs ∧ a.id = i := by
  unfold fndA at h
  exact ⟨List.mem_of_find?_eq_some h, by simpa using List.find?_some h⟩
theorem fnd_none {xs : List Ac} {i : Int} (h : fndA xs i = none) : ∀ a ∈ xs, a.id ≠ i := by
  unfold fndA at h
  intro a ha
  simpa using List.find?_eq_none.1 h a ha
theorem fnd_mem : ∀ {xs : List Ac}, Srt xs → ∀ {a : Ac}, a ∈ xs → fndA xs a.id = some a
  | x :: r, hs, a, ha => by
    obtain ⟨h1, h2⟩ := List.pairwise_cons.1 hs
    rcases List.mem_cons.1 ha with rfl | ha
    · simp [fndA]
    · have := h1 a ha
      have hne : x.id ≠ a.id := by omega
      have ih := fnd_mem h2 ha
      unfold fndA at ih ⊢
      rw [List.find?_cons, show (x.id == a.id) = false by simpa using hne]
      exact ih
theorem fnd_iff {xs : List Ac} (hs : Srt xs) {i : Int} {a : Ac} : fndA xs i = some a ↔ a ∈ xs ∧ a.id = i :=
  ⟨fnd_some, fun ⟨h1, h2⟩ => h2 ▸ fnd_mem hs h1⟩
theorem fnd_not {xs : List Ac} {i : Int} (h : ∀ a ∈ xs, a.id ≠ i) : fndA xs i = none := by
  unfold fndA
  rw [List.find?_eq_none]
  intro a ha
  simpa using h a ha
theorem eq_of_mem_lt : ∀ {l m : List Int}, l.Pairwise (· < ·) → m.Pairwise (· < ·) → (∀ x, x ∈ l ↔ x ∈ m) → l = m
  | [], [], _, _, _ => rfl
  | [], b :: s, _, _, h => by have := (h b).2 (by simp); simp at this
  | a :: r, [], _, _, h => by have := (h a).1 (by simp); simp at this
  | a :: r, b :: s, h1, h2, h => by
    obtain ⟨a1, a2⟩ := List.pairwise_cons.1 h1
    obtain ⟨b1, b2⟩ := List.pairwise_cons.1 h2
    have hab : a = b := by
      rcases List.mem_cons.1 ((h a).1 (by simp)) with e | ha
      · exact e
      · rcases List.mem_cons.1 ((h b).2 (by simp)) with e | hb
        · exact e.symm
        · have := a1 b hb
          have := b1 a ha
          omega
    subst hab
    rw [eq_of_mem_lt a2 b2 (fun p => ⟨fun hp => by
      rcases List.mem_cons.1 ((h p).1 (by simp [hp])) with e | hp'
      · have := a1 p hp
        omega
      · exact hp', fun hp => by
      rcases List.mem_cons.1 ((h p).2 (by simp [hp])) with e | hp'
      · have := b1 p hp
        omega
      · exact hp'⟩)]

/-- One more at its place, or in the place of one. -/
def insA (a : Ac) : List Ac → List Ac
  | [] => [a]
  | x :: r => if a.id < x.id then a :: x :: r else if a.id = x.id then a :: r else x :: insA a r
theorem mem_insA {a : Ac} : ∀ {xs : List Ac}, Srt xs → ∀ {b : Ac}, b ∈ insA a xs ↔ b = a ∨ (b ∈ xs ∧ b.id ≠ a.id)
  | [], _, b => by simp [insA]
  | x :: r, hs, b => by
    obtain ⟨h1, h2⟩ := List.pairwise_cons.1 hs
    have ih := mem_insA (a := a) h2 (b := b)
    unfold insA
    by_cases c1 : a.id < x.id
    · rw [if_pos c1]
      have hx : ∀ y ∈ x :: r, y.id ≠ a.id := fun y hy => by
        rcases List.mem_cons.1 hy with rfl | hy
        · omega
        · have := h1 y hy; omega
      constructor
      · intro h
        rcases List.mem_cons.1 h with rfl | h
        · exact .inl rfl
        · exact .inr ⟨h, hx b h⟩
      · rintro (rfl | ⟨h, _⟩)
        · simp
        · exact List.mem_cons_of_mem _ h
    · rw [if_neg c1]
      by_cases c2 : a.id = x.id
      · rw [if_pos c2]
        have hx : ∀ y ∈ r, y.id ≠ a.id := fun y hy => by have := h1 y hy; omega
        constructor
        · intro h
          rcases List.mem_cons.1 h with rfl | h
          · exact .inl rfl
          · exact .inr ⟨List.mem_cons_of_mem _ h, hx b h⟩
        · rintro (rfl | ⟨h, hn⟩)
          · simp
          · rcases List.mem_cons.1 h with rfl | h
            · exact absurd c2.symm hn
            · exact List.mem_cons_of_mem _ h
      · rw [if_neg c2, List.mem_cons, ih, List.mem_cons]
        constructor
        · rintro (rfl | rfl | ⟨h, hn⟩)
          · exact .inr ⟨.inl rfl, fun e => c2 e.symm⟩
          · exact .inl rfl
          · exact .inr ⟨.inr h, hn⟩
        · rintro (rfl | ⟨rfl | h, hn⟩)
          · exact .inr (.inl rfl)
          · exact .inl rfl
          · exact .inr (.inr ⟨h, hn⟩)
theorem insA_srt {a : Ac} : ∀ {xs : List Ac}, Srt xs → Srt (insA a xs)
  | [], _ => by simp [insA, Srt]
  | x :: r, hs => by
    obtain ⟨h1, h2⟩ := List.pairwise_cons.1 hs
    have ih := insA_srt (a := a) h2
    unfold insA
    by_cases c1 : a.id < x.id
    · rw [if_pos c1]
      refine List.pairwise_cons.2 ⟨fun y hy => ?_, hs⟩
      rcases List.mem_cons.1 hy with rfl | hy
      · exact c1
      · have := h1 y hy; omega
    · rw [if_neg c1]
      by_cases c2 : a.id = x.id
      · rw [if_pos c2]
        exact List.pairwise_cons.2 ⟨fun y hy => by have := h1 y hy; omega, h2⟩
      · rw [if_neg c2]
        refine List.pairwise_cons.2 ⟨fun y hy => ?_, ih⟩
        rcases (mem_insA h2).1 hy with rfl | ⟨hy, _⟩
        · omega
        · exact h1 y hy
theorem fnd_insA {a : Ac} {xs : List Ac} (hs : Srt xs) (i : Int) : fndA (insA a xs) i = if i = a.id then some a else fndA xs i := by
  by_cases h : i = a.id
  · rw [if_pos h, fnd_iff (insA_srt hs)]
    exact ⟨(mem_insA hs).2 (.inl rfl), h.symm⟩
  · rw [if_neg h]
    cases hf : fndA xs i with
    | none =>
      refine fnd_not fun b hb => ?_
      rcases (mem_insA hs).1 hb with rfl | ⟨hb, _⟩
      · exact fun e => h e.symm
      · exact fnd_none hf b hb
    | some b =>
      obtain ⟨h1, h2⟩ := fnd_some hf
      rw [fnd_iff (insA_srt hs)]
      exact ⟨(mem_insA hs).2 (.inr ⟨h1, by rw [h2]; exact h⟩), h2⟩
/-- In the place of one the ids are the same. -/
theorem ids_insA {a : Ac} : ∀ {xs : List Ac}, Srt xs → (∃ b ∈ xs, b.id = a.id) → (insA a xs).map (·.id) = xs.map (·.id)
  | [], _, h => by simp at h
  | x :: r, hs, h => by
    obtain ⟨h1, h2⟩ := List.pairwise_cons.1 hs
    obtain ⟨b, hb, e⟩ := h
    unfold insA
    rcases List.mem_cons.1 hb with rfl | hb
    · rw [if_neg (by omega), if_pos e.symm]
      simp [e]
    · have := h1 b hb
      rw [if_neg (by omega), if_neg (by omega), List.map_cons, ids_insA h2 ⟨b, hb, e⟩, List.map_cons]
theorem len_insA {a : Ac} : ∀ {xs : List Ac}, Srt xs → (∀ b ∈ xs, b.id ≠ a.id) → (insA a xs).length = xs.length + 1
  | [], _, _ => rfl
  | x :: r, hs, h => by
    obtain ⟨h1, h2⟩ := List.pairwise_cons.1 hs
    unfold insA
    by_cases c1 : a.id < x.id
    · rw [if_pos c1]; rfl
    · rw [if_neg c1, if_neg (fun e => h x (by simp) e.symm), List.length_cons, len_insA h2 (fun b hb => h b (List.mem_cons_of_mem _ hb))]
      rfl
theorem perm_insA {a : Ac} : ∀ {xs : List Ac}, (∀ b ∈ xs, b.id ≠ a.id) → (insA a xs).Perm (a :: xs)
  | [], _ => by simp [insA]
  | x :: r, h => by
    unfold insA
    by_cases c1 : a.id < x.id
    · rw [if_pos c1]
    · rw [if_neg c1, if_neg (fun e => h x (by simp) e.symm)]
      exact ((perm_insA (fun b hb => h b (List.mem_cons_of_mem _ hb))).cons x).trans (List.Perm.swap a x r)

/-- As the document's goes: d says whether it is in already. -/
def putG (a : Ac) : Bool → List Ac → List Ac
  | d, [] => if d then [] else [a]
  | d, x :: r => (if !d && decide (a.id ≤ x.id) then [a] else []) ++ ((if x.id ≠ a.id then [x] else []) ++ putG a (d || decide (a.id ≤ x.id)) r)
theorem putG_true (a : Ac) : ∀ xs : List Ac, putG a true xs = xs.filter (fun x => x.id != a.id)
  | [] => rfl
  | x :: r => by
    unfold putG
    rw [Bool.true_or, putG_true a r, List.filter_cons]
    by_cases h : x.id = a.id
    · simp [h]
    · simp [h]
theorem putG_ins (a : Ac) : ∀ {xs : List Ac}, Srt xs → putG a false xs = insA a xs
  | [], _ => rfl
  | x :: r, hs => by
    obtain ⟨h1, h2⟩ := List.pairwise_cons.1 hs
    unfold putG insA
    by_cases c : a.id ≤ x.id
    · have hf : r.filter (fun x => x.id != a.id) = r := List.filter_eq_self.2 (fun y hy => by have := h1 y hy; simp; omega)
      rw [decide_eq_true c, Bool.or_true, putG_true, hf]
      by_cases c2 : a.id < x.id
      · rw [if_pos c2]
        have : x.id ≠ a.id := by omega
        simp [this]
      · have : x.id = a.id := by omega
        rw [if_neg c2, if_pos this.symm]
        simp [this]
    · rw [decide_eq_false c, if_neg (by omega : ¬ a.id < x.id), if_neg (by omega : ¬ a.id = x.id), Bool.or_false, putG_ins a h2]
      have : x.id ≠ a.id := by omega
      simp [this]

/-- Without one. -/
def remA (xs : List Ac) (i : Int) : List Ac := xs.filter (fun a => a.id != i)
theorem mem_remA {xs : List Ac} {i : Int} {a : Ac} : a ∈ remA xs i ↔ a ∈ xs ∧ a.id ≠ i := by simp [remA]
theorem remA_srt {xs : List Ac} (hs : Srt xs) (i : Int) : Srt (remA xs i) := List.Pairwise.filter _ hs
theorem fnd_remA {xs : List Ac} (hs : Srt xs) (i j : Int) : fndA (remA xs i) j = if j = i then none else fndA xs j := by
  by_cases h : j = i
  · rw [if_pos h]
    exact fnd_not fun a ha => h ▸ (mem_remA.1 ha).2
  · rw [if_neg h]
    cases hf : fndA xs j with
    | none => exact fnd_not fun a ha => fnd_none hf a (mem_remA.1 ha).1
    | some b =>
      obtain ⟨h1, h2⟩ := fnd_some hf
      rw [fnd_iff (remA_srt hs i)]
      exact ⟨mem_remA.2 ⟨h1, by rw [h2]; exact h⟩, h2⟩
theorem len_remA : ∀ {xs : List Ac}, Srt xs → ∀ {a : Ac}, a ∈ xs → (remA xs a.id).length + 1 = xs.length
  | x :: r, hs, a, ha => by
    obtain ⟨h1, h2⟩ := List.pairwise_cons.1 hs
    unfold remA
    rcases List.mem_cons.1 ha with rfl | ha
    · have hf : r.filter (fun b => b.id != a.id) = r := List.filter_eq_self.2 (fun y hy => by have := h1 y hy; simp; omega)
      rw [List.filter_cons_of_neg (by simp), hf]
      rfl
    · have := h1 a ha
      rw [List.filter_cons_of_pos (by simp; omega), List.length_cons, List.length_cons]
      have := len_remA h2 ha
      unfold remA at this
      omega

/-- May that step follow that state? -/
def folB (s : Nat) (st : Int) : Bool := match s with
  | 1 => st == 1
  | 2 => st == 2
  | 4 => st == 2
  | 8 => st == 2
  | 16 => st == 2 || (st == 3 || st == 4)
  | 32 => st == 1 || st == 5
  | 64 => st == 5
  | _ => false
/-- The table's rows. -/
def folL : List Nat := [0, 33, 30, 16, 16, 96]
def busyB (xs : List Ac) (c : Int) : Bool := xs.any (fun a => a.co == c)
def cntA (xs : List Ac) (sp st : Int) : Nat := (xs.filter (fun a => a.sp == sp && a.st == st)).length
def cacO (xs : List Ac) (sp : Int) : Option Ac := xs.find? (fun a => a.sp == sp && a.st == 5)
/-- A step that asks, looks further, and turns the one. -/
def opE (s : Nat) (chk : Ac → Int) (xs : List Ac) (i : Int) : Int := match fndA xs i with
  | none => 4
  | some a => if folB s a.st then chk a else 5
def opX (s : Nat) (chk : Ac → Int) (f : Ac → Ac) (xs : List Ac) (i : Int) : List Ac := match fndA xs i with
  | none => xs
  | some a => if folB s a.st && chk a == 0 then insA (f a) xs else xs
def runK (xs : List Ac) (c : Int) : Ac → Int := fun _ => if c < 0 ∨ 64 ≤ c then 2 else if busyB xs c then 3 else 0
def runF (c : Int) (a : Ac) : Ac := { a with st := 2, co := c }
def lodK (t : Int) : Ac → Int := fun _ => if t < 0 then 2 else 0
def lodF (t : Int) (a : Ac) : Ac := { a with th := t }
def blkK (a : Ac) : Int := if a.th = 0 then 5 else 0
def blkF (a : Ac) : Ac := { a with st := 3, co := -1 }
def noK : Ac → Int := fun _ => 0
def preF (c : Cx) (a : Ac) : Ac := { a with st := 4, co := -1, pg := c.pg, pc := c.pc, rs := c.rs, dp := c.dp }
def cacF (a : Ac) : Ac := ⟨a.id, 5, a.sp, -1, 0, 0, 0, fun _ => 0, 0⟩
def newA (i sp : Int) : Ac := ⟨i, 1, sp, -1, 0, 0, 0, fun _ => 0, 0⟩

/-- A table: ages and who is taken, activations. -/
structure Sta where
  ag : List Nat
  tk : List Bool
  xs : List Ac
def mkI (s : Sta) (sp : Int) : Int := if sp < 1 ∨ 16 < sp then 0 else match cacO s.xs sp with
  | some a => a.id
  | none => takeI s.ag s.tk
def mkE (s : Sta) (sp : Int) : Int := if sp < 1 ∨ 16 < sp then 2 else match cacO s.xs sp with
  | some _ => 0
  | none => takeE s.ag s.tk
def mkS (s : Sta) (sp : Int) : Sta := if sp < 1 ∨ 16 < sp then s else match cacO s.xs sp with
  | some a => { s with xs := insA { a with st := 1 } s.xs }
  | none => match leastO s.ag s.tk with
    | some _ => ⟨takeA s.ag s.tk, takeT s.ag s.tk, insA (newA (takeI s.ag s.tk) sp) s.xs⟩
    | none => s
def opS (s : Nat) (chk : Ac → Int) (f : Ac → Ac) (σ : Sta) (i : Int) : Sta := { σ with xs := opX s chk f σ.xs i }
def endS (s : Sta) (i : Int) : Sta := ⟨s.ag, freeT s.ag s.tk i, remA s.xs i⟩
def disS (s : Sta) (i : Int) : Sta := if opE 32 noK s.xs i = 0 then endS s i else s
/-- All of that space of these are ended. -/
def drpS (sp : Int) : List Ac → Sta → Sta
  | [], s => s
  | a :: r, s => drpS sp r (if a.sp = sp then endS s a.id else s)
def drpN (sp : Int) (xs : List Ac) : Nat := (xs.filter (fun a => a.sp == sp)).length
end Go.Proofs.YtjgclehghnmhnaaDoor
