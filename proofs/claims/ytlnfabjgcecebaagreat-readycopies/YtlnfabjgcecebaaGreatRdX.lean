/- What any acts make of a queue of threads; and what a queue of the program's must tell. -/
import Derived.Test.YtlnfabjgcecebaaGreatRdH
import Derived.Test.YtlnfabjgcecebaaGreatRdL
import Derived.Test.YtlnfabjgcecebaaGreatRdC
namespace Go.Proofs.YtlnfabjgcecebaaGreat.Rd
open Go Go.RowKit Go.Proofs.YtlnfabjgcecebaaGreat.Str
open Go.Proofs.YtlnfabjgcecebaaGreat.Hp (Step Disj)

/-- What an act makes of it. -/
def actS (σ : Qs) (k id t : Int) : Qs :=
  if k = 0 then joinS σ id t else if k = 1 then pickS σ else if k = 2 then turnS σ id 1 2 false else if k = 3 then turnS σ id 2 1 true else if k = 4 then turnS σ id 2 3 false
  else if k = 5 then turnS σ id 3 1 true else if k = 6 then turnS σ id 3 2 false else if k = 7 then dropS σ id else if k = 8 then lowS σ else σ
theorem Gen.act {K : Nat} {A : Int} {σ : Qs} (h : Gen K A σ) (hK : K ≤ 1000) (k id t : Int) : ∃ A', Gen (K + 1) A' (actS σ k id t) := by
  unfold actS
  repeat' split
  · exact ⟨A, (h.join id t).up⟩
  · exact ⟨A, h.pick⟩
  · exact ⟨A, (h.turn hK id 1 2 false (by omega) (.inl rfl)).up⟩
  · exact ⟨A, (h.turn hK id 2 1 true (by omega) (.inr (.inr ⟨rfl, rfl⟩))).up⟩
  · exact ⟨A, (h.turn hK id 2 3 false (by omega) (.inr (.inl rfl))).up⟩
  · exact ⟨A, (h.turn hK id 3 1 true (by omega) (.inr (.inr ⟨rfl, rfl⟩))).up⟩
  · exact ⟨A, (h.turn hK id 3 2 false (by omega) (.inl rfl)).up⟩
  · exact ⟨A, (h.drop id).up⟩
  · rcases h.low with g | g
    · exact ⟨_, g.up⟩
    · rw [g]
      exact ⟨A, h.up⟩
  · exact ⟨A, h.up⟩
/-- Few acts were done. -/
def Few (K : Nat) (σ : Qs) : Prop := ∃ A, Gen K A σ
theorem Few.act {K : Nat} {σ : Qs} (h : Few K σ) (hK : K ≤ 1000) (k id t : Int) : Few (K + 1) (actS σ k id t) := by
  obtain ⟨A, g⟩ := h
  exact g.act hK k id t
theorem Few.new (N : Nat) : Few 0 ⟨0, List.replicate N z4⟩ := ⟨0, Gen.new N⟩
theorem Few.sml {K : Nat} {σ : Qs} (h : Few K σ) (hK : K ≤ 1000) : 0 ≤ σ.now ∧ σ.now ≤ 1099511627776000 ∧ Sml σ.L ∧ ∀ i, i < σ.L.length → -9223372036854775808 ≤ (rw σ.L i).2.2.1 ∧ (rw σ.L i).2.2.1 ≤ 9223372036854775807 := by
  obtain ⟨A, g⟩ := h
  have a0 := g.a0
  have n0 := g.n0
  have n1 := g.n1
  have hk : (K : Int) * 1099511627776 ≤ 1000 * 1099511627776 := by omega
  refine ⟨n0, by omega, fun i _ => ?_, fun i _ => ?_⟩
  · obtain ⟨b1, b2, b3, b4⟩ := g.small hK i
    exact ⟨⟨by omega, by omega⟩, ⟨by omega, by omega⟩⟩
  · obtain ⟨b1, b2, b3, b4⟩ := g.small hK i
    exact ⟨by omega, by omega⟩
theorem Few.lowB {K : Nat} {σ : Qs} (h : Few K σ) (hK : K ≤ 1000) : lowB σ = true := by
  obtain ⟨A, g⟩ := h
  exact g.lowB hK
theorem Few.low {K : Nat} {σ : Qs} (h : Few K σ) : Few K (lowS σ) := by
  obtain ⟨A, g⟩ := h
  rcases g.low with g' | g'
  · exact ⟨_, g'⟩
  · rw [g']
    exact ⟨A, g⟩

/-- What a queue of the program's must be and tell, where few acts were done: B is where it is, T are its blocks. -/
structure Side (PQ : World → Nat → List Nat → Nat → Qs → Prop) : Prop where
  mem : ∀ {w : World} {B : Nat} {T : List Nat} {N : Nat} {σ : Qs}, PQ w B T N σ → B ∈ T
  lt : ∀ {w : World} {B : Nat} {T : List Nat} {N : Nat} {σ : Qs}, PQ w B T N σ → ∀ x ∈ T, x < w.heap.size
  but : ∀ {w w' : World} {B : Nat} {T S : List Nat} {N : Nat} {σ : Qs}, PQ w B T N σ → Hp.But S w w' → Disj T S → PQ w' B T N σ
  len : ∀ {w : World} {B : Nat} {T : List Nat} {N : Nat} {σ : Qs}, PQ w B T N σ → σ.L.length = N
  nil : ∀ (a : Int) (w : World), a < 1 ∨ 4096 < a → Calls Tryz.prog 4 #[.int .i64 a] w fun e w' => e = .returned (.pointer none) ∧ Below w.heap.size w w'
  made : ∀ (N : Nat) (w : World), 1 ≤ N → N ≤ 4096 → Calls Tryz.prog 4 #[.int .i64 N] w fun e w' => ∃ B T, e = .returned (.pointer (some ⟨B, 0, none⟩)) ∧ PQ w' B T N ⟨0, List.replicate N z4⟩ ∧ Step [] w T w'
  join : ∀ {w : World} {B : Nat} {T : List Nat} {N K : Nat} {σ : Qs}, PQ w B T N σ → Few K σ → K ≤ 1000 → ∀ id t : Int, Calls Tryz.prog 12 #[.pointer (some ⟨B, 0, none⟩), .int .i64 id, .int .i64 t] w fun e w' => e = .returned (.int .i64 (joinE σ id t)) ∧ ∃ T', PQ w' B T' N (joinS σ id t) ∧ Step T w T' w'
  pick : ∀ {w : World} {B : Nat} {T : List Nat} {N K : Nat} {σ : Qs}, PQ w B T N σ → Few K σ → K ≤ 1000 → Calls Tryz.prog 13 #[.pointer (some ⟨B, 0, none⟩)] w fun e w' => e = .returned (.tuple #[.int .i64 (pickI σ), .bool (pickB σ)]) ∧ ∃ T', PQ w' B T' N (pickS σ) ∧ Step T w T' w'
  take : ∀ {w : World} {B : Nat} {T : List Nat} {N K : Nat} {σ : Qs}, PQ w B T N σ → Few K σ → K ≤ 1000 → ∀ id : Int, Calls Tryz.prog 17 #[.pointer (some ⟨B, 0, none⟩), .int .i64 id] w fun e w' => e = .returned (.int .i64 (turnE σ id 1)) ∧ ∃ T', PQ w' B T' N (turnS σ id 1 2 false) ∧ Step T w T' w'
  back : ∀ {w : World} {B : Nat} {T : List Nat} {N K : Nat} {σ : Qs}, PQ w B T N σ → Few K σ → K ≤ 1000 → ∀ id : Int, Calls Tryz.prog 14 #[.pointer (some ⟨B, 0, none⟩), .int .i64 id] w fun e w' => e = .returned (.int .i64 (turnE σ id 2)) ∧ ∃ T', PQ w' B T' N (turnS σ id 2 1 true) ∧ Step T w T' w'
  block : ∀ {w : World} {B : Nat} {T : List Nat} {N K : Nat} {σ : Qs}, PQ w B T N σ → Few K σ → K ≤ 1000 → ∀ id : Int, Calls Tryz.prog 20 #[.pointer (some ⟨B, 0, none⟩), .int .i64 id] w fun e w' => e = .returned (.int .i64 (turnE σ id 2)) ∧ ∃ T', PQ w' B T' N (turnS σ id 2 3 false) ∧ Step T w T' w'
  wake : ∀ {w : World} {B : Nat} {T : List Nat} {N K : Nat} {σ : Qs}, PQ w B T N σ → Few K σ → K ≤ 1000 → ∀ id : Int, Calls Tryz.prog 22 #[.pointer (some ⟨B, 0, none⟩), .int .i64 id] w fun e w' => e = .returned (.int .i64 (turnE σ id 3)) ∧ ∃ T', PQ w' B T' N (turnS σ id 3 1 true) ∧ Step T w T' w'
  resume : ∀ {w : World} {B : Nat} {T : List Nat} {N K : Nat} {σ : Qs}, PQ w B T N σ → Few K σ → K ≤ 1000 → ∀ id : Int, Calls Tryz.prog 24 #[.pointer (some ⟨B, 0, none⟩), .int .i64 id] w fun e w' => e = .returned (.int .i64 (turnE σ id 3)) ∧ ∃ T', PQ w' B T' N (turnS σ id 3 2 false) ∧ Step T w T' w'
  drop : ∀ {w : World} {B : Nat} {T : List Nat} {N K : Nat} {σ : Qs}, PQ w B T N σ → Few K σ → K ≤ 1000 → ∀ id : Int, Calls Tryz.prog 26 #[.pointer (some ⟨B, 0, none⟩), .int .i64 id] w fun e w' => e = .returned (.int .i64 (dropE σ id)) ∧ ∃ T', PQ w' B T' N (dropS σ id) ∧ Step T w T' w'
  lower : ∀ {w : World} {B : Nat} {T : List Nat} {N K : Nat} {σ : Qs}, PQ w B T N σ → Few K σ → K ≤ 1000 → Calls Tryz.prog 28 #[.pointer (some ⟨B, 0, none⟩)] w fun e w' => e = .returned (.int .i64 (lowN σ)) ∧ ∃ T', PQ w' B T' N (lowS σ) ∧ Step T w T' w'
  state : ∀ {w : World} {B : Nat} {T : List Nat} {N : Nat} {σ : Qs}, PQ w B T N σ → ∀ id : Int, Calls Tryz.prog 35 #[.pointer (some ⟨B, 0, none⟩), .int .i64 id] w fun e w' => e = .returned (.int .i64 (rwI σ id).1) ∧ Below w.heap.size w w'
  pass : ∀ {w : World} {B : Nat} {T : List Nat} {N K : Nat} {σ : Qs}, PQ w B T N σ → Few K σ → ∀ id : Int, Calls Tryz.prog 33 #[.pointer (some ⟨B, 0, none⟩), .int .i64 id] w fun e w' => e = .returned (.tuple #[.int .i64 (rwI σ id).2.2.1, .bool (decide ((rwI σ id).1 ≠ 0))]) ∧ Below w.heap.size w w'
  picks : ∀ {w : World} {B : Nat} {T : List Nat} {N K : Nat} {σ : Qs}, PQ w B T N σ → Few K σ → ∀ id : Int, Calls Tryz.prog 36 #[.pointer (some ⟨B, 0, none⟩), .int .i64 id] w fun e w' => e = .returned (.int .i64 (rwI σ id).2.2.2) ∧ Below w.heap.size w w'
  now : ∀ {w : World} {B : Nat} {T : List Nat} {N : Nat} {σ : Qs}, PQ w B T N σ → Calls Tryz.prog 37 #[.pointer (some ⟨B, 0, none⟩)] w fun e w' => e = .returned (.int .i64 σ.now) ∧ Below w.heap.size w w'
  waiting : ∀ {w : World} {B : Nat} {T : List Nat} {N : Nat} {σ : Qs}, PQ w B T N σ → Calls Tryz.prog 40 #[.pointer (some ⟨B, 0, none⟩)] w fun e w' => ∃ v, e = .returned v ∧ RowI w' w.heap.size v (ids (qL σ)) ∧ Below w.heap.size w w'
  sound : ∀ {w : World} {B : Nat} {T : List Nat} {N K : Nat} {σ : Qs}, PQ w B T N σ → Few K σ → K ≤ 1000 → Calls Tryz.prog 38 #[.pointer (some ⟨B, 0, none⟩)] w fun e w' => e = .returned (.bool true) ∧ Below w.heap.size w w'
  copy : ∀ {w : World} {B : Nat} {T : List Nat} {N : Nat} {σ : Qs}, PQ w B T N σ → Calls Tryz.prog 8 #[.pointer (some ⟨B, 0, none⟩)] w fun e w' => ∃ B2 T2, e = .returned (.pointer (some ⟨B2, 0, none⟩)) ∧ PQ w' B2 T2 N σ ∧ Step [] w T2 w'
end Go.Proofs.YtlnfabjgcecebaaGreat.Rd
