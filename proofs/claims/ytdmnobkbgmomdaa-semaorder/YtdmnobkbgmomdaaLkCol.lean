/- slices.Collect over a list's things in order. -/
import Derived.Test.YtdmnobkbgmomdaaLkOwn
namespace Go.Proofs.Ytdmnobkbgmomdaa.Lk
open Go Go.RowKit Go.Shelf Go.Proofs.Ytdmnobkbgmomdaa.Bs
attribute [local go_sem] Oper.semAt_some
set_option maxRecDepth 100000 in
set_option maxHeartbeats 2000000 in
theorem appendSeq_in (Bl Bi : Nat) (v0 : Value) (i : Int) (q : List Nat) (w : World) (hs : Src w v0 i q) (c0 : w.cell? ⟨Bl, 0, none⟩ = some v0) (c1 : w.cell? ⟨Bi, 0, none⟩ = some (.int .i64 i)) :
    CallsIn Fence.wide 5 Try.prog 44 #[.slice none 0 0, .func (.func 45) #[] #[.pointer (some ⟨Bl, 0, none⟩), .pointer (some ⟨Bi, 0, none⟩)]] w fun e w' => ∃ v, e = .returned v ∧ RowI w' w.heap.size v (ints q) ∧ Below w.heap.size w w' := by
  obtain ⟨i0, hi, hz0, hz1, hz2⟩ := info_parts info3
  have hql := hs.le
  have l0 := World.block_lt_of_cell? w _ c0
  have l1 := World.block_lt_of_cell? w _ c1
  refine callsIn_of_wp_marks Try.func44 rfl trivial ?_ rfl
  simp only [Try.ntmps44, List.size_toArray, List.length_cons, List.length_nil, Nat.reduceAdd, Nat.reduceSub, Array.replicate_succ, Array.replicate_zero, List.push_toArray, List.append_toArray, List.nil_append, List.cons_append]
  gi_wp2_with fail
  have hB2 : Below w.heap.size w (w.alloc (.cells #[.slice none 0 0] 35)) := (Below.refl _ w).alloc (Nat.le_refl _) _
  have b2 : Boxed (w.alloc (.cells #[.slice none 0 0] 35)) w.heap.size 35 (.slice none 0 0) := Boxed.new w 35 (.slice none 0 0)
  have y0 : (w.alloc (.cells #[.slice none 0 0] 35)).cell? ⟨Bl, 0, none⟩ = some v0 := cell_on hB2 c0
  have y1 : (w.alloc (.cells #[.slice none 0 0] 35)).cell? ⟨Bi, 0, none⟩ = some (.int .i64 i) := cell_on hB2 c1
  have hs0 := hs.later hB2
  have hsz : (w.alloc (.cells #[.slice none 0 0] 35)).heap.size = w.heap.size + 1 := by simp
  generalize (w.alloc (.cells #[.slice none 0 0] 35)) = W0 at *
  have hO : ∀ b, ¬ Owned W0 w.heap.size b := by
    rintro b ⟨u, g, hu, hg, _⟩
    have := hu.symm.trans b2
    simp only [Option.some.injEq, Obj.cells.injEq, Array.mk.injEq, List.cons.injEq, and_true] at this
    obtain rfl := this
    simp [Value.ownBlock] at hg
  clear hs c0 c1
  refine wpIn_rangeFunc_ownG rfl (by omega) (gf := 45) (lb := #[.pointer (some ⟨Bl, 0, none⟩), .pointer (some ⟨Bi, 0, none⟩)]) rfl trivial (enters_of Try.func45 (by kernel_rfl) rfl)
    (all_stops (fun x : Nat => x) (5 - 1) (by omega) Bl Bi v0 i q W0 (by simpa using hs0) y0 y1 (Kq w.heap.size) (fun A T => T ≠ w.heap.size ∧ ¬ Owned A w.heap.size T)
      (fun W T hW hT => ⟨by omega, fun ⟨u, g, hu, hg, hle⟩ => hO T ⟨u, g, (hW.block _ (by omega)).symm.trans hu, hg, hle⟩⟩)
      (fun A B T vs hk ⟨s1, s2⟩ ⟨cur, h1, h2⟩ => by obtain ⟨k1, k2⟩ := hk T _ s1 s2 h1 rfl; exact ⟨⟨cur, k1, h2⟩, s1, k2⟩)) kq_t (kq_b (by omega)) (Below.refl _ _) (fun _ => rfl)
    (fun pre W => (∃ v, Boxed W w.heap.size 35 v ∧ W.ownsRow w.heap.size 3 1 v pre.length (pre.map iv) ∧ True) ∧ Below w.heap.size w W)
    (fun c pre W => False)
    (OwnFrom.and (Own.from (holdsRow_own w.heap.size w.heap.size 35 3 1 (fun pre : List Nat => pre.length) (fun pre => pre.map iv) (fun _ _ => True)) _) (ownFrom_below (Nat.le_refl _) (by omega)))
    (fun c => Own.from (fun _ A B row hs hg hr => hs) _)
    ⟨⟨_, b2, World.ownsRow_nil _ _ _ _, trivial⟩, hB2⟩ ?a1 ?assign ?body ?done ?stop
  case assign =>
    intro l x W K hK
    gi_wp2
    exact hK
  case body =>
    rintro l pre x W ⟨⟨v, hv, hrow0, _⟩, hB⟩ hlt
    have d2 := hv.cell
    have hB3 : w.heap.size + 1 ≤ W.heap.size := by
      have h2 := hv.lt
      omega
    have hvv : ∃ a c, v = .slice a pre.length c := by
      rcases hrow0.2 with ⟨rfl, h0⟩ | ⟨g, cap, cur, rfl, _⟩
      · exact ⟨none, 0, by rw [h0]⟩
      · exact ⟨_, cap, rfl⟩
    obtain ⟨base, hb1, hb2', hrow, hbs⟩ := rebase hrow0 (by omega)
    obtain ⟨sa, sc, rfl⟩ := hvv
    gi_wp2_with (gi_at_builtin; refine wpListIn_append_own _ rfl _ _ 35 rfl base 3 i0 (.int .i64 0) 1 8 Try.underlying35 hi hz0 hz1 hz2 rfl (by decide) _ _ _ rfl (hrow.alloc _) ⟨_, 0, none⟩ 1 1 [.int .i64 x] rfl rfl (cell_one_new _ _ _) (by simp [Value.oneCell']) (by unfold maxLen; omega) (by omega) (by simp; omega) ?_; intro v' w1 hown' hgrow _; obtain ⟨g', cap', rfl⟩ := ownsRow_succ hown'; obtain ⟨hv1, hv2, hr2, hk2, hb2⟩ := hv.appended (by decide) hrow0 (by omega) (Nat.le_refl _) (row_lower hown' hb1) hgrow; have hkq := kq_append hv hrow hbs hown' hgrow; have hc1 := hv1.cell; have hf1 := hv1.frozen)
    refine ⟨hk2.from _, hkq, ⟨_, hv2, ?_, trivial⟩, hB.trans hb2⟩
    rw [List.length_append, List.map_append]
    exact hr2
  case done =>
    rintro D ys W hD rfl ⟨⟨v, hv, hrow, _⟩, hB⟩ hK
    have d2 := hv.cell
    gi_wp2
    refine ⟨by simp, .inl ⟨_, _, rfl, run_takeDeferred hK, ?_⟩⟩
    refine ⟨v, by simp [results, Try.f44, go_sem], v, rfl, ?_, hB.trans (belowK_b (w := w) (Nat.le_refl _) W D _ _ (by omega) hK rfl rfl)⟩
    unfold RowI
    rw [ints_iv, ints_len]
    exact row_lower (ownsRow_putObj hrow _ hK rfl) (by omega)
  case stop =>
    rintro D c pre W hD hpre h hK
    exact h.elim
theorem collect_any (Bl Bi : Nat) (v0 : Value) (i : Int) (q : List Nat) (w : World) (hs : Src w v0 i q) (c0 : w.cell? ⟨Bl, 0, none⟩ = some v0) (c1 : w.cell? ⟨Bi, 0, none⟩ = some (.int .i64 i)) :
    Calls Try.prog 37 #[.func (.func 45) #[] #[.pointer (some ⟨Bl, 0, none⟩), .pointer (some ⟨Bi, 0, none⟩)]] w fun e w' => ∃ v, e = .returned v ∧ RowI w' w.heap.size v (ints q) ∧ Below w.heap.size w w' := by
  have A := (callsIn_wide (n := 5)).1 (appendSeq_in Bl Bi v0 i q w hs c0 c1)
  go_enter Try.func37, Try.ntmps37
  go_wp2_with (first | (go_at_call 44; (with_reducible refine A.mono ?_); rintro e w1 ⟨v, rfl, r1, b1⟩))
  go_ret
  exact ⟨_, rfl, r1, b1⟩
/-- A list's things, as a slice: Collect behind All. -/
theorem all_src {w : World} {P : Pl} {N L : Nat} {ls : List (List Nat)} (h : LQ w P N L ls) (i : Int) :
    Src ((w.alloc (.cells #[.pointer (some ⟨P.B, 0, none⟩)] 41)).alloc (.cells #[.int .i64 i] 3)) (.pointer (some ⟨P.B, 0, none⟩)) i (lsI ls i) ∧ ((w.alloc (.cells #[.pointer (some ⟨P.B, 0, none⟩)] 41)).alloc (.cells #[.int .i64 i] 3)).cell? ⟨w.heap.size, 0, none⟩ = some (.pointer (some ⟨P.B, 0, none⟩)) ∧ ((w.alloc (.cells #[.pointer (some ⟨P.B, 0, none⟩)] 41)).alloc (.cells #[.int .i64 i] 3)).cell? ⟨w.heap.size + 1, 0, none⟩ = some (.int .i64 i) := by
  obtain ⟨x0, x1⟩ := box_two w 41 3 (.pointer (some ⟨P.B, 0, none⟩)) (.int .i64 i)
  exact ⟨(h.src i).later (((Below.refl _ w).alloc (Nat.le_refl _) _).alloc (by simp) _), x0, x1⟩
end Go.Proofs.Ytdmnobkbgmomdaa.Lk
