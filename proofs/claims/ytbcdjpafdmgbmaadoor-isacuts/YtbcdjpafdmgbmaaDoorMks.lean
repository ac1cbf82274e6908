/- Marks of ranges over functions that a frame bears; what is left of them at its end. -/
import Derived.Test.YtbcdjpafdmgbmaaDoorGood
namespace Go.Proofs.YtbcdjpafdmgbmaaDoor
open Go.RowKit

def mkD (D : Nat) : Deferred := { target := .collected D, args := #[] }
/-- Marks, each with its own block, which holds nothing. -/
structure Marks (base : Nat) (Ds : List Nat) (W : World) : Prop where
  nodup : Ds.Nodup
  at_ : ∀ D ∈ Ds, base ≤ D ∧ W.heap[D]? = some (.deferred (some []))
theorem Marks.nil (base : Nat) (W : World) : Marks base [] W := ⟨List.nodup_nil, fun _ h => by cases h⟩
theorem Marks.lt {base : Nat} {Ds : List Nat} {W : World} (h : Marks base Ds W) {D : Nat} (hD : D ∈ Ds) : D < W.heap.size := (Array.getElem?_eq_some_iff.1 (h.at_ D hD).2).1
theorem Marks.keep {base : Nat} {Ds : List Nat} {W W' : World} (h : Marks base Ds W) (k : KeepsFrom base W W') : Marks base Ds W' := ⟨h.nodup, fun D hD => ⟨(h.at_ D hD).1, k.same D _ (h.at_ D hD).1 (h.at_ D hD).2 rfl⟩⟩
theorem Marks.but {base : Nat} {S Ds : List Nat} {W W' : World} (h : Marks base Ds W) (k : But S W W') (hS : ∀ D ∈ Ds, D ∉ S) : Marks base Ds W' := ⟨h.nodup, fun D hD => ⟨(h.at_ D hD).1, (k.block D (h.lt hD) (hS D hD)).trans (h.at_ D hD).2⟩⟩
theorem Marks.cons {base : Nat} {Ds : List Nat} {W : World} (h : Marks base Ds W) {D : Nat} (hD : ∀ x ∈ Ds, x < D) (hb : base ≤ D) (e : W.heap[D]? = some (.deferred (some []))) : Marks base (D :: Ds) W :=
  ⟨List.nodup_cons.2 ⟨fun hm => by have := hD D hm; omega, h.nodup⟩, fun x hx => by
    rcases List.mem_cons.1 hx with rfl | hx
    · exact ⟨hb, e⟩
    · exact h.at_ x hx⟩
/-- A block that is turned, no cells and not a mark's, leaves the marks. -/
theorem Marks.own {base n : Nat} {Ds : List Nat} {A B : World} {row : Option Nat} (h : Marks base Ds A) (hg : A.grownBy B row) (hr : ∀ r, row = some r → n ≤ r) (hn : ∀ D ∈ Ds, D < n) : Marks base Ds B :=
  ⟨h.nodup, fun D hD => ⟨(h.at_ D hD).1, (hg.block D (h.lt hD) (fun e => by have := hr D e.symm; have := hn D hD; omega)).trans (h.at_ D hD).2⟩⟩

theorem leaves_marks {F : Fence} {n : Nat} {P : Program} {fn : Func} {tmps : Array Value} {R : Ending → World → Prop} : ∀ (Ds : List Nat) (W : World), Ds.Nodup → (∀ D ∈ Ds, W.heap[D]? = some (.deferred (some []))) →
    (∀ W', But Ds W W' → ∃ v, (results fn tmps).run P W' = .ok v W' ∧ R (.returned v) W') → LeavesInM F n P fn tmps R (Ds.map mkD) .returning W
  | [], W, _, _, h => h W (But.refl _ _)
  | D :: Ds, W, hn, hD, h => by
    have hn' := List.nodup_cons.1 hn
    refine ⟨by simp, .inl ⟨D, _, rfl, run_takeDeferred (hD D (by simp)), ?_⟩⟩
    have b1 : But [D] W (W.putObj D (.deferred none)) := ⟨rfl, rfl, rfl, by simp, fun k _ hk => World.putObj_heap_other (by simpa using hk)⟩
    refine leaves_marks Ds _ hn'.2 (fun x hx => ?_) (fun W' hb => h W' ?_)
    · have hne : x ≠ D := fun e => hn'.1 (by rw [← e]; exact hx)
      exact (World.putObj_heap_other hne).trans (hD x (by simp [hx]))
    · exact (b1.mono (by simp)).trans (hb.mono (fun x hx => by simp [hx]))
theorem post_marks {F : Fence} {n : Nat} {P : Program} {fn : Func} {tmps : Array Value} {R : Ending → World → Prop} {Ds : List Nat} {W : World} {base : Nat} (hm : Marks base Ds W)
    (h : ∀ W', But Ds W W' → ∃ v, (results fn tmps).run P W' = .ok v W' ∧ R (.returned v) W') : bodyPostM F n P fn R .ret { tmps := tmps, defers := Ds.map mkD } W :=
  leaves_marks Ds W hm.nodup (fun D hD => (hm.at_ D hD).2) h

end Go.Proofs.YtbcdjpafdmgbmaaDoor
