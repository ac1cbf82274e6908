/- Regions that draw their order within a round: as without one; and where the order is forced, in that order. -/
import Derived.RangeFuncCalls
import Derived.OrdersIn
import Derived.TacticsIn
namespace Go.Proofs.YtbcdjpafdmgbmaaDoor
open Go Go.RowKit

section
variable {P : Program} {ops : Array Oper} {md : Region.Mode} {Q : Exit → Act → World → Prop}

/-- No operation defers. -/
def noDeferB (ops : Array Oper) : Bool := ops.all fun o => match o.op with | .defer _ => false | _ => true

theorem noDefer_spec (h : noDeferB ops = true) (i : Nat) (o : Oper) (hi : ops[i]? = some o) : ∀ c, o.op ≠ .defer c := by
  intro c e
  have := Array.all_eq_true_iff_forall_mem.1 h o (Array.mem_of_getElem? hi)
  rw [e] at this
  cases this

theorem wpOpIn_round {l n i : Nat} {K K' : Act → World → Prop} {a : Act} {w : World} (hd : noDeferB ops = true) (hK : ∀ a w, K a w → K' a w)
    (h : wpOpIn Fence.wide n P ops Q i K a w) : wpOpIn (Fence.wide.inRound l) n P ops Q i K' a w := by
  refine wpOpIn_mono hK ?_
  unfold wpOpIn at *
  split
  · rename_i ho; simp only [ho] at h; exact h
  · rename_i o ho
    simp only [ho] at h
    split
    · rename_i hw
      simp only [hw, if_true] at h
      unfold Oper.wpIn at *
      rw [Oper.semAt_eq _ _ _ (noDefer_spec hd i o ho)] at h ⊢
      exact h
    · rename_i hw; simp only [hw] at h; exact h

theorem anyRound {l n : Nat} (hd : noDeferB ops = true) : ∀ {fuel : Nat} {listed : Array Bool} {a : Act} {w : World},
    wpAnyIn Fence.wide n P md ops Q fuel listed a w → wpAnyIn (Fence.wide.inRound l) n P md ops Q fuel listed a w
  | 0, _, _, _, h => h
  | _ + 1, _, _, _, h => ⟨h.1, fun i hi => wpOpIn_round hd (fun _ _ h' => anyRound hd h') (h.2 i hi)⟩

/-- From here on the order is forced: one behind the other. -/
def forcedB (md : Region.Mode) (ops : Array Oper) : Nat → Nat → Array Bool → Bool
  | 0, _, listed => (Region.ready md ops listed).isEmpty
  | f + 1, k, listed => (Region.ready md ops listed == [k]) && forcedB md ops f (k + 1) (listed.setIfInBounds k true)

theorem wpAnyIn_list {F : Fence} {n : Nat} : ∀ (l : List Oper) (k : Nat) {listed : Array Bool} {a : Act} {w : World}, (∀ j, j < l.length → l[j]? = ops[k + j]?) → forcedB md ops l.length k listed = true →
    wpListIn F n P ops Q l a w → wpAnyIn F n P md ops Q l.length listed a w
  | [], _, listed, a, w, _, hB, h => ⟨by simpa [forcedB] using hB, h⟩
  | o :: l, k, listed, a, w, hl, hB, h => by
    simp only [List.length_cons, forcedB, Bool.and_eq_true, beq_iff_eq] at hB
    have h0 : ops[k]? = some o := by simpa using (hl 0 (by simp)).symm
    refine wpAnyIn_all hB.1 (by simp) (fun i hi => ?_)
    simp only [List.mem_singleton] at hi
    subst hi
    have hw : wpOpIn F n P ops Q i (wpListIn F n P ops Q l) a w := by
      unfold wpOpIn
      rw [h0]
      exact h
    exact wpOpIn_mono (fun a' w' h' => wpAnyIn_list l (i + 1) (fun j hj => by have := hl (j + 1) (by simp; omega); simpa [Nat.add_assoc, Nat.add_comm 1 j] using this) hB.2 h') hw

theorem wpAnyIn_drop {F : Fence} {n : Nat} {L : List Oper} (k : Nat) {f : Nat} {listed : Array Bool} {a : Act} {w : World} (hf : (L.drop k).length = f) (hB : forcedB md L.toArray f k listed = true)
    (h : wpListIn F n P L.toArray Q (L.drop k) a w) : wpAnyIn F n P md L.toArray Q f listed a w := by
  subst hf
  exact wpAnyIn_list (L.drop k) k (fun j _ => by simp) hB h

end
end Go.Proofs.YtbcdjpafdmgbmaaDoor
