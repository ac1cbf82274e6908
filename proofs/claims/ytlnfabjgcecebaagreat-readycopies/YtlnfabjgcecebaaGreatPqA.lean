/- What a queue of the program's tells of an id; now; who waits. -/
import Derived.Test.YtlnfabjgcecebaaGreatPqM
import Derived.BigQuiet
namespace Go.Proofs.YtlnfabjgcecebaaGreat.Pq
open Go Go.RowKit Go.Proofs.YtlnfabjgcecebaaGreat.Str Go.Proofs.YtlnfabjgcecebaaGreat.Rd
open Go.Proofs.YtlnfabjgcecebaaGreat.Hp (Step Disj HQ)

theorem results_c4 {fn : Func} {p : Tmp} (h : fn.results = #[.cell p 53]) (tmps : Array Value) (w : World) (g : Nat) (a b c d : Int) (hp : tmps.getD p undef = .pointer (some ⟨g, 0, none⟩)) (hc : w.heap[g]? = some (.cells #[.int .i64 a, .int .i64 b, .int .i64 c, .int .i64 d] 53 (0, 0))) :
    (results fn tmps).run Tryz.prog w = .ok (.agg #[.int .i64 a, .int .i64 b, .int .i64 c, .int .i64 d]) w := by
  have hp' : tmps[p]?.getD undef = .pointer (some ⟨g, 0, none⟩) := by simpa using hp
  have hl := run_loadVar_row (P := Tryz.prog) w g 53 53 #[.int .i64 a, .int .i64 b, .int .i64 c, .int .i64 d] (0, 0) _ hc Tryz.underlying53 (by rfl) (by kernel_rfl)
  simp [results, h, hp', asAddr, hl]
theorem field0 (a b c d : Int) (W : World) : Sem.run Tryz.prog (Instr.field 53 (.agg #[.int .i64 a, .int .i64 b, .int .i64 c, .int .i64 d]) 0) W = .ok (.int .i64 a) W := by kernel_rfl
theorem field3 (a b c d : Int) (W : World) : Sem.run Tryz.prog (Instr.field 53 (.agg #[.int .i64 a, .int .i64 b, .int .i64 c, .int .i64 d]) 3) W = .ok (.int .i64 d) W := by kernel_rfl
section
set_option maxRecDepth 100000
variable {w w' : World} {B G H N : Nat} {TH TH' : List Nat} {σ : Qs} {q q' : List Hp.Th}
set_option maxHeartbeats 1000000 in
theorem known_any (h : QM w B G H TH N σ q) (id : Int) :
    Calls Tryz.prog 64 #[.pointer (some ⟨B, 0, none⟩), .int .i64 id] w fun e w' => e = .returned (.agg #[.int .i64 (rwI σ id).1, .int .i64 (strI (rwI σ id).2.1), .int .i64 (rwI σ id).2.2.1, .int .i64 (rwI σ id).2.2.2]) ∧ Below w.heap.size w w' := by
  have h1 := h.keep ((Hp.But.refl [] w).alloc (.cells #[.int .i64 0, .int .i64 0, .int .i64 0, .int .i64 0] 53))
  have M := ask_any h1 id
  cases hi : inB σ id
  · rw [hi, if_neg (by simp)] at M
    rw [rwI_no hi]
    have hF := heap_alloc_new w (.cells #[.int .i64 0, .int .i64 0, .int .i64 0, .int .i64 0] 53)
    have hB : Below w.heap.size w (w.alloc (.cells #[.int .i64 0, .int .i64 0, .int .i64 0, .int .i64 0] 53)) := (Below.refl _ _).alloc (Nat.le_refl _) _
    have ez : strI z4.2.1 = 0 := str_z
    rw [ez]
    show Calls _ _ _ _ fun e w' => e = .returned (.agg #[.int .i64 0, .int .i64 0, .int .i64 0, .int .i64 0]) ∧ Below w.heap.size w w'
    go_enter Tryz.func64, Tryz.ntmps64
    go_wp2_with (first | (go_at_call 42; (with_reducible refine M.mono ?_); rintro e w1 ⟨rfl, rfl⟩))
    exact bodyPost_ret (results_c4 rfl _ _ w.heap.size 0 0 0 0 rfl hF) rfl ⟨rfl, hB⟩
  · rw [hi, if_pos rfl] at M
    obtain ⟨k, rfl, hk⟩ := inB_out hi
    have hkN : k < N := by rw [← h.len]; exact hk
    have hk' : (k : Int) < (N : Int) := by omega
    obtain ⟨c, -, -, c0⟩ := h1.c0
    have d0 := h1.r0 hkN
    have d1 := h1.r1 hkN
    have d2 := h1.r2 hkN
    have d3 := h1.r3 hkN
    rw [rwI_of hk]
    generalize (rw σ.L k).1 = x0 at *
    generalize strI (rw σ.L k).2.1 = x1 at *
    generalize (rw σ.L k).2.2.1 = x2 at *
    generalize (rw σ.L k).2.2.2 = x3 at *
    clear hi hk h h1
    have hF := heap_alloc_new w (.cells #[.int .i64 x0, .int .i64 x1, .int .i64 x2, .int .i64 x3] 53)
    have hB : Below w.heap.size w (w.alloc (.cells #[.int .i64 x0, .int .i64 x1, .int .i64 x2, .int .i64 x3] 53)) := (Below.refl _ _).alloc (Nat.le_refl _) _
    go_enter Tryz.func64, Tryz.ntmps64
    go_wp2_with (first | (go_at_call 42; (with_reducible refine M.mono ?_); rintro e w1 ⟨rfl, rfl⟩))
    exact bodyPost_ret (results_c4 rfl _ _ w.heap.size x0 x1 x2 x3 rfl hF) rfl ⟨rfl, hB⟩
theorem state_any (h : QM w B G H TH N σ q) (id : Int) :
    Calls Tryz.prog 35 #[.pointer (some ⟨B, 0, none⟩), .int .i64 id] w fun e w' => e = .returned (.int .i64 (rwI σ id).1) ∧ Below w.heap.size w w' := by
  have K := known_any h id
  generalize (rwI σ id).1 = x0 at *
  generalize strI (rwI σ id).2.1 = x1 at *
  generalize (rwI σ id).2.2.1 = x2 at *
  generalize (rwI σ id).2.2.2 = x3 at *
  have hf := fun W => field0 x0 x1 x2 x3 W
  go_enter Tryz.func35, Tryz.ntmps35
  go_wp2_with (first | (go_at_call 64; (with_reducible refine K.mono ?_); rintro e w1 ⟨rfl, b1⟩))
  go_ret
  exact ⟨rfl, b1⟩
theorem picks_any (h : QM w B G H TH N σ q) (id : Int) :
    Calls Tryz.prog 36 #[.pointer (some ⟨B, 0, none⟩), .int .i64 id] w fun e w' => e = .returned (.int .i64 (rwI σ id).2.2.2) ∧ Below w.heap.size w w' := by
  have K := known_any h id
  generalize (rwI σ id).1 = x0 at *
  generalize strI (rwI σ id).2.1 = x1 at *
  generalize (rwI σ id).2.2.1 = x2 at *
  generalize (rwI σ id).2.2.2 = x3 at *
  have hf := fun W => field3 x0 x1 x2 x3 W
  go_enter Tryz.func36, Tryz.ntmps36
  go_wp2_with (first | (go_at_call 64; (with_reducible refine K.mono ?_); rintro e w1 ⟨rfl, b1⟩))
  go_ret
  exact ⟨rfl, b1⟩
theorem pass_any (h : QM w B G H TH N σ q) (id : Int) :
    Calls Tryz.prog 33 #[.pointer (some ⟨B, 0, none⟩), .int .i64 id] w fun e w' => e = .returned (.tuple #[.int .i64 (rwI σ id).2.2.1, .bool (decide ((rwI σ id).1 ≠ 0))]) ∧ Below w.heap.size w w' := by
  have K := known_any h id
  have hz : ∀ x : Int, (!(x == 0)) = decide (x ≠ 0) := fun x => by by_cases e : x = 0 <;> simp [e]
  rw [← hz]
  generalize (rwI σ id).1 = x0 at *
  generalize strI (rwI σ id).2.1 = x1 at *
  generalize (rwI σ id).2.2.1 = x2 at *
  generalize (rwI σ id).2.2.2 = x3 at *
  clear hz
  go_enter Tryz.func33, Tryz.ntmps33
  go_upto_region 2 with (first | (go_at_call 64; (with_reducible refine K.mono ?_); rintro e w1 ⟨rfl, b1⟩))
  have b2 : Below w.heap.size w (w1.alloc (.cells #[.int .i64 x0, .int .i64 x1, .int .i64 x2, .int .i64 x3] 53)) := b1.alloc b1.size _
  go_quiet (fail)
  go_wp2_with fail
  go_ret2
  exact ⟨rfl, ((Hp.But.of_below (S := []) b2).drewN _).to_below⟩
theorem now_any (h : QM w B G H TH N σ q) :
    Calls Tryz.prog 37 #[.pointer (some ⟨B, 0, none⟩)] w fun e w' => e = .returned (.int .i64 σ.now) ∧ Below w.heap.size w w' := by
  have M := made_any h
  have c2 := h.c2
  go_enter Tryz.func37, Tryz.ntmps37
  go_wp2_with (first | (go_at_call 30; (with_reducible refine M.mono ?_); rintro e w1 ⟨rfl, rfl⟩))
  go_ret
  exact ⟨rfl, Below.refl _ _⟩
theorem waiting_any (h : QM w B G H TH N σ q) :
    Calls Tryz.prog 40 #[.pointer (some ⟨B, 0, none⟩)] w fun e w' => ∃ v, e = .returned v ∧ RowI w' w.heap.size v (ids q) ∧ Below w.heap.size w w' := by
  have M := made_any h
  have c1 := h.c1
  have A := Hp.all_any h.h
  go_enter Tryz.func40, Tryz.ntmps40
  go_wp2_with (first
    | (go_at_call 30; (with_reducible refine M.mono ?_); rintro e w1 ⟨rfl, rfl⟩)
    | (go_at_call 69; (with_reducible refine A.mono ?_); rintro e w2 ⟨a, rfl, r2, b2⟩))
  go_ret
  exact ⟨_, rfl, r2, b2⟩
end
end Go.Proofs.YtlnfabjgcecebaaGreat.Pq
