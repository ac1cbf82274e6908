/- Contract of members: a row's ids. -/
import Derived.Test.YtmjjghhlalaeiaaApp
namespace Go.Proofs.Ytmjjghhlalaeiaa
open Go.RowKit Go.Shelf
attribute [local go_sem] Oper.semAt_some

set_option maxRecDepth 100000 in
set_option maxHeartbeats 2000000 in
theorem members_in (B : Nat) (p : Option Addr) (i : Int) (q : List Nat) (w : World) (hc : w.cell? ⟨B, 66, none⟩ = some (.pointer p)) (hs : Src w (.pointer p) i q) :
    CallsIn Fence.wide 5 Try.prog 34 #[.pointer (some ⟨B, 0, none⟩), .int .i64 i] w fun e w' => ∃ v, e = .returned v ∧ RowI w' w.heap.size v (ints q) ∧ Below w.heap.size w w' := by
  obtain ⟨i0, hi, hz0, hz1, hz2⟩ := info_parts info3
  have hql := hs.le
  have hcA : (w.alloc (.cells #[.slice none 0 0] 32)).cell? ⟨B, 66, none⟩ = some (.pointer p) := cell_on ((Below.refl _ w).alloc (Nat.le_refl _) _) hc
  refine callsIn_of_wp_marks Try.func34 rfl trivial ?_ rfl
  simp only [Try.ntmps34, List.size_toArray, List.length_cons, List.length_nil, Nat.reduceAdd, Nat.reduceSub, Array.replicate_succ, Array.replicate_zero, List.push_toArray, List.append_toArray, List.nil_append, List.cons_append]
  gi_wp2_with (refine ⟨trivial, ?_⟩; gi_at_call 52; refine (callsIn_wide.2 (all_any _ _ _)).mono ?_; rintro e w' ⟨rfl, rfl⟩)
  have b2 : Boxed (w.alloc (.cells #[.slice none 0 0] 32)) w.heap.size 32 (.slice none 0 0) := Boxed.new w 32 (.slice none 0 0)
  have hsz1 : (w.alloc (.cells #[.slice none 0 0] 32)).heap.size = w.heap.size + 1 := by simp
  have hB1 : Below w.heap.size w (w.alloc (.cells #[.slice none 0 0] 32)) := (Below.refl _ w).alloc (Nat.le_refl _) _
  have hs1 := hs.later hB1
  generalize (w.alloc (.cells #[.slice none 0 0] 32)) = W1 at *
  obtain ⟨x0, x1⟩ := box_two W1 55 3 (.pointer p) (.int .i64 i)
  rw [hsz1] at x0 x1
  have hB2 : Below W1.heap.size W1 ((W1.alloc (.cells #[.pointer p] 55)).alloc (.cells #[.int .i64 i] 3)) := ((Below.refl _ W1).alloc (Nat.le_refl _) _).alloc (by simp) _
  have hs0 := hs1.later hB2
  have b3 : Boxed ((W1.alloc (.cells #[.pointer p] 55)).alloc (.cells #[.int .i64 i] 3)) w.heap.size 32 (.slice none 0 0) := (hB2.block _ (by omega)).trans b2
  have hB3 : Below w.heap.size w ((W1.alloc (.cells #[.pointer p] 55)).alloc (.cells #[.int .i64 i] 3)) := hB1.trans (hB2.mono hB1.size)
  have hsz : ((W1.alloc (.cells #[.pointer p] 55)).alloc (.cells #[.int .i64 i] 3)).heap.size = w.heap.size + 1 + 1 + 1 := by simp [hsz1]
  generalize ((W1.alloc (.cells #[.pointer p] 55)).alloc (.cells #[.int .i64 i] 3)) = W0 at *
  have hO : ∀ b, ¬ Owned W0 w.heap.size b := by
    rintro b ⟨u, g, hu, hg, _⟩
    have := hu.symm.trans b3
    simp only [Option.some.injEq, Obj.cells.injEq, Array.mk.injEq, List.cons.injEq, and_true] at this
    obtain rfl := this
    simp [Value.ownBlock] at hg
  clear hs hs1 hB1 hB2 b2 hcA
  refine wpIn_rangeFunc_ownG rfl (by omega) (gf := 67) (lb := #[.pointer (some ⟨w.heap.size + 1, 0, none⟩), .pointer (some ⟨w.heap.size + 1 + 1, 0, none⟩)]) rfl trivial (enters_of Try.func67 (by kernel_rfl) rfl)
    (all_stops (fun x : Nat => x) (5 - 1) (by omega) (w.heap.size + 1) (w.heap.size + 1 + 1) (.pointer p) i q W0 (by simpa using hs0) x0 x1 (Kq w.heap.size) (fun A T => T ≠ w.heap.size ∧ ¬ Owned A w.heap.size T)
      (fun W T hW hT => ⟨by omega, fun ⟨u, g, hu, hg, hle⟩ => hO T ⟨u, g, (hW.block _ (by omega)).symm.trans hu, hg, hle⟩⟩)
      (fun A B T vs hk ⟨s1, s2⟩ ⟨cur, h1, h2⟩ => by obtain ⟨k1, k2⟩ := hk T _ s1 s2 h1 rfl; exact ⟨⟨cur, k1, h2⟩, s1, k2⟩)) kq_t (kq_b (by omega)) (Below.refl _ _) (fun _ => rfl)
    (fun pre W => (∃ v, Boxed W w.heap.size 32 v ∧ W.ownsRow w.heap.size 3 1 v pre.length (pre.map iv) ∧ True) ∧ Below w.heap.size w W)
    (fun c pre W => False)
    (OwnFrom.and (Own.from (holdsRow_own w.heap.size w.heap.size 32 3 1 (fun pre : List Nat => pre.length) (fun pre => pre.map iv) (fun _ _ => True)) _) (ownFrom_below (Nat.le_refl _) (by omega)))
    (fun c => Own.from (fun _ A B row hs hg hr => hs) _)
    ⟨⟨_, b3, World.ownsRow_nil _ _ _ _, trivial⟩, hB3⟩ ?a1 ?assign ?body ?done ?stop
  case assign =>
    intro l x W K hK
    gi_wp2
    exact hK
  case body =>
    rintro l pre x W ⟨⟨v, hv, hrow0, _⟩, hB⟩ hlt
    have d2 := hv.cell
    have hB3 : w.heap.size + 1 ≤ W.heap.size := by
      have h2 := hv.lt
      omega
    have hvv : ∃ a c, v = .slice a pre.length c := by
      rcases hrow0.2 with ⟨rfl, h0⟩ | ⟨g, cap, cur, rfl, _⟩
      · exact ⟨none, 0, by rw [h0]⟩
      · exact ⟨_, cap, rfl⟩
    obtain ⟨base, hb1, hb2', hrow, hbs⟩ := rebase hrow0 (by omega)
    obtain ⟨sa, sc, rfl⟩ := hvv
    gi_wp2_with (gi_at_builtin; refine wpListIn_append_own _ rfl _ _ 32 rfl base 3 i0 (.int .i64 0) 1 8 Try.underlying32 hi hz0 hz1 hz2 rfl (by decide) _ _ _ rfl (hrow.alloc _) ⟨_, 0, none⟩ 1 1 [.int .i64 x] rfl rfl (cell_one_new _ _ _) (by simp [Value.oneCell']) (by unfold maxLen; omega) (by omega) (by simp; omega) ?_; intro v' w1 hown' hgrow _; obtain ⟨g', cap', rfl⟩ := ownsRow_succ hown'; obtain ⟨hv1, hv2, hr2, hk2, hb2⟩ := hv.appended (by decide) hrow0 (by omega) (Nat.le_refl _) (row_lower hown' hb1) hgrow; have hkq := kq_append hv hrow hbs hown' hgrow; have hc1 := hv1.cell; have hf1 := hv1.frozen)
    refine ⟨hk2.from _, hkq, ⟨_, hv2, ?_, trivial⟩, hB.trans hb2⟩
    rw [List.length_append, List.map_append]
    exact hr2
  case done =>
    rintro D ys W hD rfl ⟨⟨v, hv, hrow, _⟩, hB⟩ hK
    have d2 := hv.cell
    gi_wp2
    refine ⟨by simp, .inl ⟨_, _, rfl, run_takeDeferred hK, ?_⟩⟩
    refine ⟨v, by simp [results, Try.f34, go_sem], v, rfl, ?_, hB.trans (belowK_b (w := w) (Nat.le_refl _) W D _ _ (by omega) hK rfl rfl)⟩
    unfold RowI
    rw [ints_iv, ints_len]
    exact row_lower (ownsRow_putObj hrow _ hK rfl) (by omega)
  case stop =>
    rintro D c pre W hD hpre h hK
    exact h.elim

theorem members_any (B : Nat) (p : Option Addr) (i : Int) (q : List Nat) (w : World) (hc : w.cell? ⟨B, 66, none⟩ = some (.pointer p)) (hs : Src w (.pointer p) i q) :
    Calls Try.prog 34 #[.pointer (some ⟨B, 0, none⟩), .int .i64 i] w fun e w' => ∃ v, e = .returned v ∧ RowI w' w.heap.size v (ints q) ∧ Below w.heap.size w w' :=
  (callsIn_wide (n := 5)).1 (members_in B p i q w hc hs)

end Go.Proofs.Ytmjjghhlalaeiaa
