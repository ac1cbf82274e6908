/- What locks of the program's must be and tell; such locks and the document's, alike. -/
import Derived.Test.YtimoleijdfoahaaLoN
namespace Go.Proofs.Ytimoleijdfoahaa.Lo
open Go Go.RowKit Go.Proofs.Ytimoleijdfoahaa.Bs
open Go.Proofs.Ytimoleijdfoahaa.Lk (inN inN_of inN_out ints ints_iv ints_len iv)

def owX (σ : St) (o : Int) : Int := if inO σ o then owI σ o else -1
def wX (σ : St) (o : Int) : List Nat := if inO σ o then W σ o.toNat else []
def sX (σ : St) (c : Int) : List Nat := if inO σ c then S σ c.toNat else []
/-- What locks of the program's must be and tell: B is where they are, Q are their blocks. -/
structure Side (PL : World → Nat → List Nat → Nat → Nat → St → Prop) : Prop where
  lt : ∀ {w : World} {B : Nat} {Q : List Nat} {n T : Nat} {σ : St}, PL w B Q n T σ → ∀ x ∈ Q, x < w.heap.size
  but : ∀ {w w' : World} {B : Nat} {Q S' : List Nat} {n T : Nat} {σ : St}, PL w B Q n T σ → But S' w w' → Disj Q S' → PL w' B Q n T σ
  nil : ∀ (a t : Int) (w : World), a < 1 ∨ 64 < a ∨ t < 1 ∨ 1024 < t → Calls Try.prog 9 #[.int .i64 a, .int .i64 t] w fun e w' => e = .returned (.pointer none) ∧ Below w.heap.size w w'
  made : ∀ (n T : Nat) (w : World), 1 ≤ n → n ≤ 64 → 1 ≤ T → T ≤ 1024 → Calls Try.prog 9 #[.int .i64 n, .int .i64 T] w fun e w' => ∃ B Q, e = .returned (.pointer (some ⟨B, 0, none⟩)) ∧ PL w' B Q n T (new n T) ∧ Step [] w Q w'
  lock : ∀ {w : World} {B : Nat} {Q : List Nat} {n T : Nat} {σ : St}, PL w B Q n T σ → Ok n T σ → ∀ o t : Int, Calls Try.prog 17 #[.pointer (some ⟨B, 0, none⟩), .int .i64 o, .int .i64 t] w fun e w' => e = .returned (.tuple #[.bool (lockB σ o t), .int .i64 (lockE σ o t)]) ∧ ∃ Q', PL w' B Q' n T (lockS σ o t) ∧ Step Q w Q' w'
  unlock : ∀ {w : World} {B : Nat} {Q : List Nat} {n T : Nat} {σ : St}, PL w B Q n T σ → Ok n T σ → ∀ o t : Int, Calls Try.prog 18 #[.pointer (some ⟨B, 0, none⟩), .int .i64 o, .int .i64 t] w fun e w' => e = .returned (.tuple #[.int .i64 (unlV σ o t), .int .i64 (unlE σ o t)]) ∧ ∃ Q', PL w' B Q' n T (unlS σ o t) ∧ Step Q w Q' w'
  wait : ∀ {w : World} {B : Nat} {Q : List Nat} {n T : Nat} {σ : St}, PL w B Q n T σ → Ok n T σ → ∀ c o t : Int, Calls Try.prog 19 #[.pointer (some ⟨B, 0, none⟩), .int .i64 c, .int .i64 o, .int .i64 t] w fun e w' => e = .returned (.tuple #[.int .i64 (waitV σ c o t), .int .i64 (waitE σ c o t)]) ∧ ∃ Q', PL w' B Q' n T (waitS σ c o t) ∧ Step Q w Q' w'
  signal : ∀ {w : World} {B : Nat} {Q : List Nat} {n T : Nat} {σ : St}, PL w B Q n T σ → Ok n T σ → ∀ c : Int, Calls Try.prog 22 #[.pointer (some ⟨B, 0, none⟩), .int .i64 c] w fun e w' => e = .returned (.tuple #[.int .i64 (sigV σ c), .int .i64 (sigE σ c)]) ∧ ∃ Q', PL w' B Q' n T (sigS σ c) ∧ Step Q w Q' w'
  cast : ∀ {w : World} {B : Nat} {Q : List Nat} {n T : Nat} {σ : St}, PL w B Q n T σ → Ok n T σ → ∀ c : Int, Calls Try.prog 20 #[.pointer (some ⟨B, 0, none⟩), .int .i64 c] w fun e w' => ∃ v, e = .returned (.tuple #[v, .int .i64 (sigE σ c)]) ∧ RowI w' w.heap.size v (castL σ c) ∧ ∃ Q', PL w' B Q' n T (castS σ c) ∧ Step Q w Q' w' ∧ ∀ k, v.ownBlock = some k → k ∉ Q'
  drop : ∀ {w : World} {B : Nat} {Q : List Nat} {n T : Nat} {σ : St}, PL w B Q n T σ → Ok n T σ → ∀ t : Int, Calls Try.prog 23 #[.pointer (some ⟨B, 0, none⟩), .int .i64 t] w fun e w' => ∃ v, e = .returned v ∧ RowI w' w.heap.size v (dropL σ t) ∧ ∃ Q', PL w' B Q' n T (dropS σ t) ∧ Step Q w Q' w' ∧ ∀ k, v.ownBlock = some k → k ∉ Q'
  owner : ∀ {w : World} {B : Nat} {Q : List Nat} {n T : Nat} {σ : St}, PL w B Q n T σ → Ok n T σ → ∀ o : Int, Calls Try.prog 13 #[.pointer (some ⟨B, 0, none⟩), .int .i64 o] w fun e w' => e = .returned (.int .i64 (owX σ o)) ∧ Below w.heap.size w w'
  waiters : ∀ {w : World} {B : Nat} {Q : List Nat} {n T : Nat} {σ : St}, PL w B Q n T σ → Ok n T σ → ∀ o : Int, Calls Try.prog 14 #[.pointer (some ⟨B, 0, none⟩), .int .i64 o] w fun e w' => ∃ v, e = .returned v ∧ RowI w' w.heap.size v (ints (wX σ o)) ∧ Below w.heap.size w w'
  sleepers : ∀ {w : World} {B : Nat} {Q : List Nat} {n T : Nat} {σ : St}, PL w B Q n T σ → Ok n T σ → ∀ c : Int, Calls Try.prog 15 #[.pointer (some ⟨B, 0, none⟩), .int .i64 c] w fun e w' => ∃ v, e = .returned v ∧ RowI w' w.heap.size v (ints (sX σ c)) ∧ Below w.heap.size w w'
  where_ : ∀ {w : World} {B : Nat} {Q : List Nat} {n T : Nat} {σ : St}, PL w B Q n T σ → Ok n T σ → ∀ t : Int, Calls Try.prog 16 #[.pointer (some ⟨B, 0, none⟩), .int .i64 t] w fun e w' => e = .returned (.tuple #[.int .i64 (whereK σ t), .int .i64 (whereO σ t)]) ∧ Below w.heap.size w w'

/-- Locks of the program's and the document's, laid apart. -/
structure Pr (PL : World → Nat → List Nat → Nat → Nat → St → Prop) (W0 w : World) (B : Nat) (Q : List Nat) (M : Nat) (R : List Nat) (n T : Nat) (σ σ' : St) : Prop where
  a : PL w B Q n T σ
  r : RQ w M R n T σ'
  d : Disj Q R
  s : Step [] W0 (Q ++ R) w
section
variable {PL : World → Nat → List Nat → Nat → Nat → St → Prop} {W0 w w' : World} {B M n T : Nat} {Q Q' R R' : List Nat} {σ σ' τ : St}
theorem Side.keep (S : Side PL) (h : PL w B Q n T σ) (hb : But [] w w') : PL w' B Q n T σ := S.but h hb (by simp [Disj])
theorem Pr.keep (S : Side PL) (h : Pr PL W0 w B Q M R n T σ σ') (hb : But [] w w') : Pr PL W0 w' B Q M R n T σ σ' := ⟨S.keep h.a hb, h.r.keep hb, h.d, h.s.trans (Step.keep hb)⟩
theorem Pr.left (h : Pr PL W0 w B Q M R n T σ σ') (h' : PL w' B Q' n T τ) (st : Step Q w Q' w') : Pr PL W0 w' B Q' M R n T τ σ' := ⟨h', h.r.out st.but h.d.symm, h.d.step st h.r.lt, h.s.trans (st.left R)⟩
theorem Pr.right (S : Side PL) (h : Pr PL W0 w B Q M R n T σ σ') (h' : RQ w' M R' n T τ) (st : Step R w R' w') : Pr PL W0 w' B Q M R' n T σ τ := ⟨S.but h.a st.but h.d, h', (h.d.symm.step st (S.lt h.a)).symm, h.s.trans (st.right Q)⟩
theorem Pr.out (S : Side PL) (h : Pr PL W0 w B Q M R n T σ σ') {A : Nat} (hA : w.heap.size ≤ A) : A ∉ Q ++ R := fun e => (List.mem_append.1 e).elim (fun e => by have := S.lt h.a A e; omega) (fun e => by have := h.r.lt A e; omega)
theorem Pr.outQ (S : Side PL) (h : Pr PL W0 w B Q M R n T σ σ') {A : Nat} (hA : w.heap.size ≤ A) : A ∉ Q := fun e => by have := S.lt h.a A e; omega
theorem Pr.outR (h : Pr PL W0 w B Q M R n T σ σ') {A : Nat} (hA : w.heap.size ≤ A) : A ∉ R := fun e => by have := h.r.lt A e; omega
theorem Pr.new {w1 w2 : World} (S : Side PL) (h1 : PL w1 B Q n T σ) (s1 : Step [] W0 Q w1) (h2 : RQ w2 M R n T σ') (s2 : Step [] w1 R w2) : Pr PL W0 w2 B Q M R n T σ σ' := by
  refine ⟨S.keep h1 s2.but, h2, fun x hx hy => ?_, s1.but.trans s2.but, fun x hx => .inr ?_⟩
  · have := S.lt h1 x hx
    rcases s2.new x hy with e | e
    · cases e
    · omega
  · have hz := s1.but.size
    rcases List.mem_append.1 hx with hx | hx
    · rcases s1.new x hx with e | e
      · cases e
      · exact e
    · rcases s2.new x hx with e | e
      · cases e
      · omega
end
/-- The act that lies in box A: kind, lock, condition, thread. -/
abbrev At4 (w : World) (A : Nat) (k o c t : Int) : Prop := w.cell? ⟨A, 0, none⟩ = some (.int .i64 k) ∧ w.cell? ⟨A, 1, none⟩ = some (.int .i64 o) ∧ w.cell? ⟨A, 2, none⟩ = some (.int .i64 c) ∧ w.cell? ⟨A, 3, none⟩ = some (.int .i64 t)
theorem At4.new (w : World) (k o c t : Int) : At4 (w.alloc (.cells #[.int .i64 k, .int .i64 o, .int .i64 c, .int .i64 t] 30)) w.heap.size k o c t := by
  refine ⟨?_, ?_, ?_, ?_⟩ <;> simp [go_sem]
theorem At4.but {w w' : World} {S' : List Nat} {A : Nat} {k o c t : Int} (h : At4 w A k o c t) (hb : But S' w w') (hA : A ∉ S') : At4 w' A k o c t := ⟨hb.cell' h.1 hA, hb.cell' h.2.1 hA, hb.cell' h.2.2.1 hA, hb.cell' h.2.2.2 hA⟩
/-- What an act makes of locks. -/
def actS (σ : St) (k o c t : Int) : St := if k = 0 then lockS σ o t else if k = 1 then unlS σ o t else if k = 2 then waitS σ c o t else if k = 3 then sigS σ c else if k = 4 then castS σ c else if k = 5 then dropS σ t else σ
theorem Ok.act {n T : Nat} {σ : St} (h : Ok n T σ) (k o c t : Int) : Ok n T (actS σ k o c t) := by
  unfold actS
  repeat' split
  · exact h.lock o t
  · exact h.unl o t
  · exact h.wait c o t
  · exact h.sig c
  · exact h.casts c
  · exact h.drop t
  · exact h
end Go.Proofs.Ytimoleijdfoahaa.Lo
