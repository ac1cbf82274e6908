/- What ends of the program's must be and tell; such ones and the document's, alike; acts, and the ids that they are about. -/
import Derived.Test.YtmbpmcgppnanpaaJnN
namespace Go.Proofs.Ytmbpmcgppnanpaa.Jn
open Go Go.RowKit Go.Proofs.Ytmbpmcgppnanpaa.Bs
open Go.Proofs.Ytmbpmcgppnanpaa.Ids (right indexI ageI idI rid_any)

/-- May a number be one of the machine's? -/
def Iv (x : Int) : Prop := -9223372036854775808 ≤ x ∧ x ≤ 9223372036854775807
/-- What ends of the program's must be and tell: B is where they are, Q are their blocks. -/
structure Side (PL : World → Nat → List Nat → Nat → St → Prop) : Prop where
  lt : ∀ {w : World} {B : Nat} {Q : List Nat} {n : Nat} {σ : St}, PL w B Q n σ → ∀ x ∈ Q, x < w.heap.size
  but : ∀ {w w' : World} {B : Nat} {Q S' : List Nat} {n : Nat} {σ : St}, PL w B Q n σ → But S' w w' → Disj Q S' → PL w' B Q n σ
  nil : ∀ (a : Int) (w : World), a < 1 ∨ 1024 < a → Calls Try.prog 8 #[.int .i64 a] w fun e w' => e = .returned (.pointer none) ∧ Below w.heap.size w w'
  made : ∀ (n : Nat) (w : World), 1 ≤ n → n ≤ 1024 → Calls Try.prog 8 #[.int .i64 n] w fun e w' => ∃ B Q, e = .returned (.pointer (some ⟨B, 0, none⟩)) ∧ PL w' B Q n (new n) ∧ Step [] w Q w'
  start : ∀ {w : World} {B : Nat} {Q : List Nat} {n : Nat} {σ : St}, PL w B Q n σ → Ok n σ → ∀ id : Int, Iv id → Calls Try.prog 12 #[.pointer (some ⟨B, 0, none⟩), .int .i64 id] w fun e w' => e = .returned (.int .i64 (startE σ id)) ∧ ∃ Q', PL w' B Q' n (startS σ id) ∧ Step Q w Q' w'
  end_ : ∀ {w : World} {B : Nat} {Q : List Nat} {n : Nat} {σ : St}, PL w B Q n σ → Ok n σ → ∀ id va : Int, Iv id → Calls Try.prog 15 #[.pointer (some ⟨B, 0, none⟩), .int .i64 id, .int .i64 va] w fun e w' => ∃ v, e = .returned (.tuple #[v, .int .i64 (endE σ id)]) ∧ RowI w' w.heap.size v (endL σ id) ∧ ∃ Q', PL w' B Q' n (endS σ id va) ∧ Step Q w Q' w' ∧ ∀ g, v.ownBlock = some g → g ∉ Q'
  join : ∀ {w : World} {B : Nat} {Q : List Nat} {n : Nat} {σ : St}, PL w B Q n σ → Ok n σ → ∀ id t : Int, Iv id → Iv t → Calls Try.prog 13 #[.pointer (some ⟨B, 0, none⟩), .int .i64 id, .int .i64 t] w fun e w' => e = .returned (.tuple #[.int .i64 (joinV σ id t), .bool (joinB σ id t), .int .i64 (joinE σ id t)]) ∧ ∃ Q', PL w' B Q' n (joinS σ id t) ∧ Step Q w Q' w'
  drop : ∀ {w : World} {B : Nat} {Q : List Nat} {n : Nat} {σ : St}, PL w B Q n σ → Ok n σ → ∀ t : Int, Iv t → Calls Try.prog 21 #[.pointer (some ⟨B, 0, none⟩), .int .i64 t] w fun e w' => e = .returned (.bool (dropB σ t)) ∧ ∃ Q', PL w' B Q' n (dropS σ t) ∧ Step Q w Q' w'
  state : ∀ {w : World} {B : Nat} {Q : List Nat} {n : Nat} {σ : St}, PL w B Q n σ → Ok n σ → ∀ id : Int, Iv id → Calls Try.prog 17 #[.pointer (some ⟨B, 0, none⟩), .int .i64 id] w fun e w' => e = .returned (.int .i64 (stI σ id)) ∧ Below w.heap.size w w'
  where_ : ∀ {w : World} {B : Nat} {Q : List Nat} {n : Nat} {σ : St}, PL w B Q n σ → Ok n σ → ∀ t : Int, Iv t → Calls Try.prog 14 #[.pointer (some ⟨B, 0, none⟩), .int .i64 t] w fun e w' => e = .returned (.int .i64 (whI σ t)) ∧ Below w.heap.size w w'
  waiters : ∀ {w : World} {B : Nat} {Q : List Nat} {n : Nat} {σ : St}, PL w B Q n σ → Ok n σ → ∀ id : Int, Iv id → Calls Try.prog 19 #[.pointer (some ⟨B, 0, none⟩), .int .i64 id] w fun e w' => ∃ v, e = .returned v ∧ RowI w' w.heap.size v (waitL σ id) ∧ Below w.heap.size w w'

theorem state_q {w : World} {M : Nat} {R : List Nat} {n : Nat} {σ : St} (h : RQ w M R n σ) (id : Int) (hi : Iv id) : Calls Try.prog 27 #[.pointer (some ⟨M, 0, none⟩), .int .i64 id] w fun e w' => e = .returned (.int .i64 (stI σ id)) ∧ w' = w := by
  obtain ⟨hok, G, vs, h⟩ := h
  exact state_any h hok id hi.2
theorem where_q {w : World} {M : Nat} {R : List Nat} {n : Nat} {σ : St} (h : RQ w M R n σ) (t : Int) : Calls Try.prog 28 #[.pointer (some ⟨M, 0, none⟩), .int .i64 t] w fun e w' => e = .returned (.int .i64 (whI σ t)) ∧ Below w.heap.size w w' := by
  obtain ⟨hok, G, vs, h⟩ := h
  exact where_any h hok t
/-- Ends of the program's and the document's, laid apart. -/
structure Pr (PL : World → Nat → List Nat → Nat → St → Prop) (W0 w : World) (B : Nat) (Q : List Nat) (M : Nat) (R : List Nat) (n : Nat) (σ σ' : St) : Prop where
  a : PL w B Q n σ
  r : RQ w M R n σ'
  d : Disj Q R
  s : Step [] W0 (Q ++ R) w
section
variable {PL : World → Nat → List Nat → Nat → St → Prop} {W0 w w' : World} {B M n : Nat} {Q Q' R R' : List Nat} {σ σ' τ : St}
theorem Side.keep (S : Side PL) (h : PL w B Q n σ) (hb : But [] w w') : PL w' B Q n σ := S.but h hb (by simp [Disj])
theorem Pr.keep (S : Side PL) (h : Pr PL W0 w B Q M R n σ σ') (hb : But [] w w') : Pr PL W0 w' B Q M R n σ σ' := ⟨S.keep h.a hb, h.r.keep hb, h.d, h.s.trans (Step.keep hb)⟩
theorem Pr.left (h : Pr PL W0 w B Q M R n σ σ') (h' : PL w' B Q' n τ) (st : Step Q w Q' w') : Pr PL W0 w' B Q' M R n τ σ' := ⟨h', h.r.out st.but h.d.symm, h.d.step st h.r.lt, h.s.trans (st.left R)⟩
theorem Pr.right (S : Side PL) (h : Pr PL W0 w B Q M R n σ σ') (h' : RQ w' M R' n τ) (st : Step R w R' w') : Pr PL W0 w' B Q M R' n σ τ := ⟨S.but h.a st.but h.d, h', (h.d.symm.step st (S.lt h.a)).symm, h.s.trans (st.right Q)⟩
theorem Pr.outQ (S : Side PL) (h : Pr PL W0 w B Q M R n σ σ') {A : Nat} (hA : w.heap.size ≤ A) : A ∉ Q := fun e => by have := S.lt h.a A e; omega
theorem Pr.outR (h : Pr PL W0 w B Q M R n σ σ') {A : Nat} (hA : w.heap.size ≤ A) : A ∉ R := fun e => by have := h.r.lt A e; omega
theorem Pr.new {w1 w2 : World} (S : Side PL) (h1 : PL w1 B Q n σ) (s1 : Step [] W0 Q w1) (h2 : RQ w2 M R n σ') (s2 : Step [] w1 R w2) : Pr PL W0 w2 B Q M R n σ σ' := by
  refine ⟨S.keep h1 s2.but, h2, fun x hx hy => ?_, s1.but.trans s2.but, fun x hx => .inr ?_⟩
  · have := S.lt h1 x hx
    rcases s2.new x hy with e | e
    · cases e
    · omega
  · have hz := s1.but.size
    rcases List.mem_append.1 hx with hx | hx
    · rcases s1.new x hx with e | e
      · cases e
      · exact e
    · rcases s2.new x hx with e | e
      · cases e
      · omega
end
/-- An act: kind, place and age of who it is about, of who does it; are they raw; a value. -/
structure Ax where
  k : Int
  p : Int
  a : Int
  b : Int
  g : Int
  raw : Bool
  v : Int
def Ax.cells (x : Ax) : Array Value := #[.int .i64 x.k, .int .i64 x.p, .int .i64 x.a, .int .i64 x.b, .int .i64 x.g, .bool x.raw, .int .i64 x.v]
structure Ax.Ok (x : Ax) : Prop where
  p : Iv x.p
  b : Iv x.b
def Ax.id (x : Ax) : Int := if x.raw then x.p else idI x.p x.a
def Ax.t (x : Ax) : Int := if x.raw then x.b else idI x.b x.g
theorem idI_iv (i a : Int) : Iv (idI i a) := by
  unfold idI Iv
  split <;> omega
theorem Ax.Ok.id {x : Ax} (h : x.Ok) : Iv x.id := by
  unfold Ax.id
  split
  · exact h.p
  · exact idI_iv _ _
theorem Ax.Ok.t {x : Ax} (h : x.Ok) : Iv x.t := by
  unfold Ax.t
  split
  · exact h.b
  · exact idI_iv _ _
/-- What is kept of the act that lies in box A: its kind, its value, itself. -/
structure At7 (w : World) (A : Nat) (x : Ax) : Prop where
  c : w.heap[A]? = some (.cells x.cells 29)
theorem At7.new (w : World) (x : Ax) : At7 (w.alloc (.cells x.cells 29)) w.heap.size x := ⟨heap_alloc_new _ _⟩
theorem At7.but {w w' : World} {S' : List Nat} {A : Nat} {x : Ax} (h : At7 w A x) (hb : But S' w w') (hA : A ∉ S') : At7 w' A x := ⟨(hb.block A (Array.getElem?_eq_some_iff.1 h.c).1 hA).trans h.c⟩
theorem At7.all {w : World} {A : Nat} {x : Ax} (h : At7 w A x) : w.cell? ⟨A, 0, none⟩ = some (.int .i64 x.k) ∧ w.cell? ⟨A, 1, none⟩ = some (.int .i64 x.p) ∧ w.cell? ⟨A, 2, none⟩ = some (.int .i64 x.a) ∧ w.cell? ⟨A, 3, none⟩ = some (.int .i64 x.b) ∧ w.cell? ⟨A, 4, none⟩ = some (.int .i64 x.g) ∧ w.cell? ⟨A, 5, none⟩ = some (.bool x.raw) ∧ w.cell? ⟨A, 6, none⟩ = some (.int .i64 x.v) := by
  refine ⟨?_, ?_, ?_, ?_, ?_, ?_, ?_⟩ <;> simp [World.cell?, h.c, Ax.cells]
/-- What an act makes of ends. -/
def actS (σ : St) (x : Ax) : St := if x.k = 0 then startS σ x.id else if x.k = 1 then endS σ x.id x.v else if x.k = 2 then joinS σ x.id x.t else if x.k = 3 then dropS σ x.t else σ
theorem Ok.act {n : Nat} {σ : St} (h : Ok n σ) (x : Ax) : Ok n (actS σ x) := by
  unfold actS
  repeat' split
  · exact h.start _
  · exact h.fin _ _
  · exact h.join _ _
  · exact h.drop _
  · exact h
set_option maxRecDepth 100000 in
set_option maxHeartbeats 2000000 in
theorem ids_any (x : Ax) (w : World) : Calls Try.prog 18 #[.agg x.cells] w fun e w' => e = .returned (.tuple #[.int .i64 x.id, .int .i64 x.t]) ∧ Below w.heap.size w w' := by
  obtain ⟨k, p, a, b, g, raw, v⟩ := x
  unfold Ax.id Ax.t Ax.cells
  dsimp only
  have I1 := fun W => rid_any p a W
  have I2 := fun W => rid_any b g W
  have hb : ∀ o j, Below w.heap.size w ((w.alloc o).drewN j) := fun o j => (((But.refl [] w).alloc o).drewN j).to_below
  cases raw
  · rw [if_neg (by simp), if_neg (by simp)]
    generalize idI p a = id at *
    generalize idI b g = t at *
    go_enter Try.func18, Try.ntmps18
    go_wp2_with fail
    go_quiet (first
      | (go_at_call_of 42 (Value.int .i64 p); exact Calls.quiet_of_same (I1 _))
      | (go_at_call_of 42 (Value.int .i64 b); exact Calls.quiet_of_same (I2 _)))
    go_wp2_with fail
    go_ret2
    exact ⟨rfl, hb _ _⟩
  · rw [if_pos rfl, if_pos rfl]
    clear I1 I2
    go_enter Try.func18, Try.ntmps18
    go_wp2_with fail
    go_quiet (fail)
    go_wp2_with fail
    go_ret2
    exact ⟨rfl, hb _ _⟩
end Go.Proofs.Ytmbpmcgppnanpaa.Jn
