/- mask's Turn. -/
import Derived.Test.YtgoedlgilgnphaaDoorIter
import Derived.Test.YtgoedlgilgnphaaDoorQuietT
import Derived.RegionIn
import Derived.BigRegionIn
namespace Go.Proofs.YtgoedlgilgnphaaDoor
open Go.RowKit Go.Shelf
attribute [local go_sem] Oper.semAt_some

/-- The union of the bits at f of those of a list. -/
def orBits (f : Nat → Nat) (l : List Nat) : Nat := l.foldl (fun a i => a ||| 2 ^ (f i)) 0

theorem boxed_kept {A B : World} {row : Option Nat} {b : Nat} {t : TypeId} {v : Value} (h : Boxed A b t v) (hg : A.grownBy B row) (hr : ∀ r, row = some r → ∃ o, A.heap[r]? = some o ∧ o.isCells = false) : Boxed B b t v :=
  h.kept hg (fun e => by
    obtain ⟨o, ho, hc⟩ := hr b e.symm
    rw [show A.heap[b]? = _ from h] at ho; cases ho; cases hc)

theorem below_drewN {n : Nat} {A B : World} (h : Below n A B) (k : Nat) : Below n A (B.drewN k) := ⟨h.os, h.tape, h.output, h.size, h.block⟩
theorem keepsOthers_drewN (W : World) (k : Nat) : KeepsOthers W (W.drewN k) := ⟨Nat.le_refl _, fun _ _ h _ => h⟩
theorem boxed_drewN {W : World} {b : Nat} {t : TypeId} {v : Value} (h : Boxed W b t v) (k : Nat) : Boxed (W.drewN k) b t v := h

theorem orBits_snoc (f : Nat → Nat) (l : List Nat) (x : Nat) : orBits f (l ++ [x]) = orBits f l ||| 2 ^ f x := by
  simp [orBits, List.foldl_append]

theorem or_lt {a b : Nat} (ha : a < 18446744073709551616) (hb : b < 18446744073709551616) : a ||| b < 18446744073709551616 := by
  have := Nat.or_lt_two_pow (n := 64) (x := a) (y := b) (by simpa using ha) (by simpa using hb)
  simpa using this

theorem orBits_lt (f : Nat → Nat) (hf : ∀ i, f i < 64) (l : List Nat) : orBits f l < 18446744073709551616 := by
  unfold orBits
  suffices h : ∀ (l : List Nat) (a : Nat), a < 18446744073709551616 → l.foldl (fun a i => a ||| 2 ^ (f i)) a < 18446744073709551616 from h l 0 (by decide)
  intro l
  induction l with
  | nil => intro a h; exact h
  | cons x l ih => intro a h; exact ih _ (or_lt h (pow_lt_64 (hf x)))

theorem tmod_bounds (b : Int) (k : Nat) (h : 1 ≤ k) : -(k : Int) < b.tmod k ∧ b.tmod k < k := by
  have h1 := Int.tmod_lt_of_pos b (b := (k : Int)) (by omega)
  have h2 := Int.tmod_lt_of_pos (-b) (b := (k : Int)) (by omega)
  rw [Int.neg_tmod] at h2
  omega

theorem tmod_step (b : Int) (k : Nat) (h : 1 ≤ k) : (b.tmod k + k).tmod k = ((b % (k : Int)).toNat : Int) := by
  have h1 := tmod_bounds b k h
  have e1 := Int.emod_nonneg b (b := (k : Int)) (by omega)
  rw [Int.tmod_eq_emod_of_nonneg (by omega), Int.add_emod_right, Int.toNat_of_nonneg e1]
  have e2 : b.tmod k % k = b % k := by
    have := Int.mul_tdiv_add_tmod b k
    conv => rhs; rw [← this]
    rw [Int.add_comm, Int.add_mul_emod_self_left]
  exact e2

set_option maxRecDepth 100000 in
set_option maxHeartbeats 2000000 in
theorem turn_in (m n : Nat) (bi : Int) (hm : m < 18446744073709551616) (hn0 : 1 ≤ n) (w : World) (hT : Tab w) (k : Nat) (hk : k = min n 64) (s : Nat) (hs : s = (bi % (k : Int)).toNat) :
    CallsIn Fence.wide 5 Tryd.prog 31 #[.int .u64 m, .int .i64 n, .int .i64 bi] w fun e w' =>
      e = .returned (.int .u64 (orBits (fun i => (i + s) % k) (mem (m &&& belowN k)) : Nat)) ∧ Below w.heap.size w w' := by
  refine callsIn_of_wp_marks Tryd.func31 rfl trivial ?_ rfl
  simp only [Tryd.ntmps31, List.size_toArray, List.length_cons, List.length_nil, Nat.reduceAdd, Nat.reduceSub, Array.replicate_succ, Array.replicate_zero, List.push_toArray, List.append_toArray, List.nil_append, List.cons_append]
  have q1 : min (n : Int) 64 = (k : Int) := by omega
  have k0 : 1 ≤ k := by omega
  have k1 : k ≤ 64 := by omega
  have q2 : wrap64 (bi.tmod k + k) = bi.tmod k + k := by
    have t1 := tmod_bounds bi k k0
    unfold wrap64; omega
  have q3 : (bi.tmod k + k).tmod k = (s : Int) := by rw [hs]; exact tmod_step bi k k0
  have hs64 : s < k := by
    have e1 := Int.emod_nonneg bi (b := (k : Int)) (by omega)
    have e2 := Int.emod_lt_of_pos bi (b := (k : Int)) (by omega)
    omega
  have q4 : clampN (k : Int) = k := by unfold clampN; split <;> (try split) <;> omega
  have hb := below_lt k1
  have q5 := bits_and_u64_nat m (belowN k) hm hb
  have hm' : m &&& belowN k < 18446744073709551616 := and_lt hm
  clear hk hs hm
  gi_wp2_with fail
  gi_region
  gi_wp2_with (first
    | (refine ⟨trivial, ?_⟩; gi_at_call 29; refine (callsIn_wide.2 (below_any k _ (by omega) (by omega))).mono ?_; rintro e w' ⟨rfl, rfl⟩; rw [q4])
    | (refine ⟨trivial, ?_⟩; gi_at_call 37; refine (callsIn_wide.2 (all_any _ _)).mono ?_; rintro e w' ⟨rfl, rfl⟩))
  have hB1 : Below w.heap.size w ((((w.alloc (Obj.cells #[Value.int IntKind.i64 ↑k] 3)).alloc (Obj.cells #[Value.int IntKind.i64 ↑s] 3)).alloc (Obj.cells #[Value.int IntKind.u64 0] 23)).alloc (Obj.cells #[Value.int IntKind.u64 ↑(m &&& belowN k)] 23)).drew :=
    (((((Below.refl _ w).alloc (Nat.le_refl _) _).alloc (by simp) _).alloc (by simp; omega) _).alloc (by simp; omega) _).drew
  have b0 : Boxed ((((w.alloc (Obj.cells #[Value.int IntKind.i64 ↑k] 3)).alloc (Obj.cells #[Value.int IntKind.i64 ↑s] 3)).alloc (Obj.cells #[Value.int IntKind.u64 0] 23)).alloc (Obj.cells #[Value.int IntKind.u64 ↑(m &&& belowN k)] 23)).drew w.heap.size 3 (.int .i64 k) :=
    (((Boxed.new w 3 (.int .i64 k)).alloc _).alloc _).alloc _
  have b1 : Boxed ((((w.alloc (Obj.cells #[Value.int IntKind.i64 ↑k] 3)).alloc (Obj.cells #[Value.int IntKind.i64 ↑s] 3)).alloc (Obj.cells #[Value.int IntKind.u64 0] 23)).alloc (Obj.cells #[Value.int IntKind.u64 ↑(m &&& belowN k)] 23)).drew (w.heap.size + 1) 3 (.int .i64 s) := by
    have := Boxed.new (w.alloc (Obj.cells #[Value.int IntKind.i64 ↑k] 3)) 3 (.int .i64 s)
    rw [World.size_alloc] at this
    exact (this.alloc _).alloc _
  have b2 : Boxed ((((w.alloc (Obj.cells #[Value.int IntKind.i64 ↑k] 3)).alloc (Obj.cells #[Value.int IntKind.i64 ↑s] 3)).alloc (Obj.cells #[Value.int IntKind.u64 0] 23)).alloc (Obj.cells #[Value.int IntKind.u64 ↑(m &&& belowN k)] 23)).drew (w.heap.size + 1 + 1) 23 (.int .u64 0) := by
    have := Boxed.new ((w.alloc (Obj.cells #[Value.int IntKind.i64 ↑k] 3)).alloc (Obj.cells #[Value.int IntKind.i64 ↑s] 3)) 23 (.int .u64 0)
    rw [World.size_alloc, World.size_alloc] at this
    exact this.alloc _
  have b3 : Boxed ((((w.alloc (Obj.cells #[Value.int IntKind.i64 ↑k] 3)).alloc (Obj.cells #[Value.int IntKind.i64 ↑s] 3)).alloc (Obj.cells #[Value.int IntKind.u64 0] 23)).alloc (Obj.cells #[Value.int IntKind.u64 ↑(m &&& belowN k)] 23)).drew (w.heap.size + 1 + 1 + 1) 23 (.int .u64 (m &&& belowN k : Nat)) := by
    have := Boxed.new (((w.alloc (Obj.cells #[Value.int IntKind.i64 ↑k] 3)).alloc (Obj.cells #[Value.int IntKind.i64 ↑s] 3)).alloc (Obj.cells #[Value.int IntKind.u64 0] 23)) 23 (.int .u64 (m &&& belowN k : Nat))
    rw [World.size_alloc, World.size_alloc, World.size_alloc] at this
    exact this
  have hsz : ((((w.alloc (Obj.cells #[Value.int IntKind.i64 ↑k] 3)).alloc (Obj.cells #[Value.int IntKind.i64 ↑s] 3)).alloc (Obj.cells #[Value.int IntKind.u64 0] 23)).alloc (Obj.cells #[Value.int IntKind.u64 ↑(m &&& belowN k)] 23)).drew.heap.size = w.heap.size + 4 := by simp
  generalize ((((w.alloc (Obj.cells #[Value.int IntKind.i64 ↑k] 3)).alloc (Obj.cells #[Value.int IntKind.i64 ↑s] 3)).alloc (Obj.cells #[Value.int IntKind.u64 0] 23)).alloc (Obj.cells #[Value.int IntKind.u64 ↑(m &&& belowN k)] 23)).drew = W0 at hB1 b0 b1 b2 b3 hsz ⊢
  have hT0 := hT.below hB1 (Nat.le_refl _)
  refine wpIn_rangeFunc_ownG rfl (by omega) (gf := 49) (lb := #[.pointer (some ⟨w.heap.size + 1 + 1 + 1, 0, none⟩)]) rfl trivial (enters_of Tryd.func49 (by kernel_rfl) rfl)
    (all_stops (5 - 1) (by omega) (w.heap.size + 1 + 1 + 1) w.heap.size (m &&& belowN k) hm' W0 hT.1 (by omega) b3.cell hT0) keepB_t (keepB_b (by omega) (by omega)) (Below.refl _ _) (fun _ => rfl)
    (fun pre W => (Boxed W w.heap.size 3 (.int .i64 k) ∧ Boxed W (w.heap.size + 1) 3 (.int .i64 s) ∧ Boxed W (w.heap.size + 1 + 1) 23 (.int .u64 (orBits (fun i => (i + s) % k) (vals pre) : Nat))) ∧ Below w.heap.size w W)
    (fun _ _ _ => False)
    (OwnFrom.and (Own.from (fun pre A B row hs hg hr => ⟨boxed_kept hs.1 hg hr, boxed_kept hs.2.1 hg hr, boxed_kept hs.2.2 hg hr⟩) _) (ownFrom_below (Nat.le_refl _) (by omega)))
    (fun _ _ _ _ _ hs _ _ => hs)
    ⟨⟨b0, b1, b2⟩, hB1⟩ ?a1 ?assign ?body ?done ?stop
  case assign =>
    intro l x W K hK
    gi_wp2
    exact hK
  case body =>
    rintro l pre ⟨x, hx⟩ W ⟨⟨c0, c1, c2⟩, hB⟩ hlt
    have d0 := c0.cell
    have d1 := c1.cell
    have d2 := c2.cell
    have d3 := c2.frozen
    have hor := orBits_lt (fun i => (i + s) % k) (fun i => by have := Nat.mod_lt (i + s) (show 0 < k by omega); omega) (vals pre)
    have h1 : 1 ≤ 5 - 1 - 1 := by omega
    dsimp only
    have hmx : Tryd.prog.follows .mixedOrders = true := by kernel_rfl
    have e0 : ((x : Int) + (s : Int)) % (k : Int) = (((x + s) % k : Nat) : Int) := by simp
    have e2 : bitN (((x : Int) + (s : Int)) % (k : Int)) = 2 ^ ((x + s) % k) := by
      have := Nat.mod_lt (x + s) (show 0 < k by omega)
      rw [e0]
      unfold bitN; rw [if_pos (by omega)]; rfl
    clear e0
    gi_wp2_with fail
    refine wpIn_region_quietL hmx (by kernel_rfl) (by kernel_rfl) rfl ?_
    show wpQuiet _ _ _ _ [_, _, _, _, _, _, _] _
    repeat (go_big_quiet_step ((go_at_call 12; exact Calls.quiet_of_same ((with_any _ (((x : Int) + (s : Int)) % (k : Int)) hor _).mono (fun e w' h => by rw [e2] at h; exact h)))))
    refine wpQuiet_nil ?_
    rintro _ ⟨nq, rfl⟩
    gi_wp2_with fail
    have eo : orBits (fun i => (i + s) % k) (vals (pre ++ [⟨x, hx⟩])) = orBits (fun i => (i + s) % k) (vals pre) ||| 2 ^ ((x + s) % k) := by
      rw [show vals (pre ++ [⟨x, hx⟩]) = vals pre ++ [x] by simp [vals]]
      exact orBits_snoc _ _ _
    have hB2 := hB.size
    refine ⟨((keepsOthers_drewN W nq).trans (KeepsOthers.setCell _ _ _)).from _, ⟨(below_drewN (Below.refl w.heap.size W) nq).setCell (p := ⟨w.heap.size + 1 + 1, 0, none⟩) (by simp; omega) _, ?_⟩, ⟨Boxed.other (boxed_drewN c0 nq) (by omega) _, Boxed.other (boxed_drewN c1 nq) (by omega) _, ?_⟩, (below_drewN hB nq).setCell (p := ⟨w.heap.size + 1 + 1, 0, none⟩) (by simp; omega) _⟩
    · exact Below.heap_setCell _ _ _ _ (by simp)
    · rw [eo]; exact (boxed_drewN c2 nq).set _
  case done =>
    rintro D ys W hD rfl ⟨⟨c0, c1, c2⟩, hB⟩ hK
    have d2 := c2.cell
    gi_wp2
    refine ⟨by simp, .inl ⟨_, _, rfl, run_takeDeferred hK, ?_⟩⟩
    rw [vals_memS]
    exact ⟨_, results_tmp rfl _ _ _, rfl, hB.trans (belowK_b (w := w) (Nat.le_refl _) W D _ _ (by omega) hK rfl rfl)⟩
  case stop =>
    rintro D c pre W _ _ h _
    exact h.elim

/-- Where the members below n are, each by further on. -/
def turnN (m : Nat) (n b : Int) : Nat :=
  if n < 1 then 0 else orBits (fun i => (i + (b % ((min n.toNat 64 : Nat) : Int)).toNat) % min n.toNat 64) (mem (m &&& belowN (min n.toNat 64)))

theorem turn_any (m : Nat) (n b : Int) (hm : m < 18446744073709551616) (w : World) (hT : Tab w) :
    Calls Tryd.prog 31 #[.int .u64 m, .int .i64 n, .int .i64 b] w fun e w' => e = .returned (.int .u64 (turnN m n b : Nat)) ∧ Below w.heap.size w w' := by
  by_cases h : n < 1
  · have e0 : ((turnN m n b : Nat) : Int) = 0 := by unfold turnN; rw [if_pos h]; rfl
    rw [e0]
    go_enter Tryd.func31, Tryd.ntmps31
    go_wp2_with fail
    go_ret
    exact ⟨rfl, (Below.refl _ w).alloc (Nat.le_refl _) _⟩
  · obtain ⟨k, rfl⟩ : ∃ k : Nat, n = k := ⟨n.toNat, by omega⟩
    have e0 : turnN m (k : Int) b = orBits (fun i => (i + (b % ((min k 64 : Nat) : Int)).toNat) % min k 64) (mem (m &&& belowN (min k 64))) := by
      unfold turnN; rw [if_neg h]; rfl
    rw [e0]
    exact (callsIn_wide (n := 5)).1 (turn_in m k b hm (by omega) w hT _ rfl _ rfl)

end Go.Proofs.YtgoedlgilgnphaaDoor
