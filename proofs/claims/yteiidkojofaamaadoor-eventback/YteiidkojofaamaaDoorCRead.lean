/- A source of bytes: Read. -/
import Derived.Test.YteiidkojofaamaaDoorCApp
namespace Go.Proofs.YteiidkojofaamaaDoor
open Go.RowKit

theorem eql_s22 (a : Addr) (n c : Nat) (W : World) : Sem.run Tryd.prog (binOp .eql 29 (.slice (some a) n c) (.slice none 0 0)) W = .ok (.bool false) W := by kernel_rfl
theorem eql_n22 (n c : Nat) (W : World) : Sem.run Tryd.prog (binOp .eql 29 (.slice none n c) (.slice none 0 0)) W = .ok (.bool true) W := by kernel_rfl

section
variable {B : Nat} {a : Option Addr} {c : Nat} {bs : List UInt8} {w : World}
set_option maxHeartbeats 400000 in
theorem clone_any (h : Byts w B a c bs) (hl : bs.length ≤ 100000) :
    Calls Tryd.prog 64 #[.slice a bs.length c] w fun e w' => ∃ v, e = .returned v ∧ Own w' w.heap.size v bs ∧ Below w.heap.size w w' := by
  cases a with
  | none =>
    have e : bs = [] := by
      rcases h with ⟨_, e⟩ | ⟨G, o, e, _⟩
      · exact e
      · cases e
    subst e
    have eq := eql_n22 0 c
    go_enter Tryd.func64, Tryd.ntmps64
    go_wp2
    go_ret
    exact ⟨_, rfl, own_nil _ _, Below.refl _ _⟩
  | some ad =>
    have eq := eql_s22 ad bs.length c
    have hn := own_nob w
    have h' : Byts (w.alloc (.cells #[] 5)) (max B 0) (some ad) c bs := (h.up (by omega)).but (S := []) ((But.refl [] w).alloc _) (by simp)
    go_enter Tryd.func64, Tryd.ntmps64
    go_wp2_with (at_builtin; refine wpList_bown rfl _ _ rfl w.heap.size _ [] rfl hn _ _ _ _ bs rfl rfl h' (by simp; omega) (by simp) ?_; intro v3 w3 ho3 hg3)
    go_ret
    exact ⟨_, rfl, ho3, ((Below.refl _ w).alloc (Nat.le_refl _) _).trans hg3⟩

set_option maxHeartbeats 400000 in
theorem read_any (h : Byts w B a c bs) (hl : bs.length ≤ 100000) :
    Calls Tryd.prog 45 #[.slice a bs.length c] w fun e w' => ∃ S, e = .returned (.pointer (some ⟨S, 0, none⟩)) ∧ w.heap.size ≤ S ∧ SQ w' S (0, bs) ∧ Below w.heap.size w w' := by
  have hc := clone_any h hl
  go_enter Tryd.func45, Tryd.ntmps45
  go_wp2_with (go_at_call 64; refine hc.mono ?_; rintro e w1 ⟨v, rfl, ho, hb⟩; obtain ⟨a1, c1, rfl, hy⟩ := ho.byts)
  go_ret
  refine ⟨_, rfl, hb.size, ⟨bs, ⟨a1, c1, ?_, hy.but (S := []) ((But.refl [] w1).alloc _) (by simp)⟩, fun _ => rfl, fun e => absurd rfl e⟩, hb.alloc hb.size _⟩
  exact heap_alloc_new w1 _
end
end Go.Proofs.YteiidkojofaamaaDoor
