/- The document's New. -/
import Derived.Test.YtimoleijdfoahaaLoE
namespace Go.Proofs.Ytimoleijdfoahaa.Lo
open Go Go.RowKit Go.Proofs.Ytimoleijdfoahaa.Bs
open Go.Proofs.Ytimoleijdfoahaa.Lk (inN inN_of inN_out wI lsI wI_nat whI whI_none whI_some whI_cases ints ints_iv ints_len iv laid5 set_range)
set_option linter.unusedSimpArgs false

theorem infoS : (Try.prog.info? 35).map (fun i => (i.zero, i.size, i.bytes)) = some (some (.slice none 0 0), 1, 24) := by kernel_rfl
theorem mk_rows (n : Nat) (hn : n ≤ 64) (X : World) : (Instr.makeSlice 61 (.int .i64 n) (.int .i64 n)).run Try.prog X = .ok (.slice (some ⟨X.heap.size, 0, none⟩) n n) (X.alloc (.cells (madeCells #[.slice none 0 0] n) 35)) := by
  obtain ⟨i0, hi, hz0, hz1, hz2⟩ := info_parts infoS
  have h := run_make (P := Try.prog) X 61 35 i0 (.slice none 0 0) Try.underlying61 hi hz0 .i64 .i64 n n (by omega) (Int.le_refl _) (by rw [hz2]; omega) (by omega)
  simpa [hz1, show (Value.slice none 0 0).cells = #[.slice none 0 0] from rfl] using h
def own0 (n j : Nat) : List Int := (List.range n).map (fun i => if i < j then -1 else 0)
theorem own0_set (n j : Nat) : (own0 n j).set j (-1) = own0 n (j + 1) := set_range (fun x hx => by
  by_cases h : x < j
  · rw [if_pos h, if_pos (by omega)]
  · rw [if_neg h, if_neg (by omega)]) (by rw [if_pos (by omega)])
theorem own0_zero (n : Nat) : (own0 n 0).map (Value.int .i64) = List.replicate n (.int .i64 0) := by
  refine List.ext_getElem (by simp [own0]) (fun i h1 h2 => ?_)
  simp [own0]
theorem own0_end (n : Nat) : own0 n n = List.replicate n (-1) := by
  refine List.ext_getElem (by simp [own0]) (fun i h1 h2 => ?_)
  have : i < n := by simpa [own0] using h1
  simp [own0, this]
theorem zero_ag (T : Nat) : (List.replicate T 0).map iv = List.replicate T (.int .i64 0) := by simp [iv]
theorem rowF_nil (w : World) (F R : List Nat) : RowF w F R (.slice none 0 0) [] := ⟨⟨by simp [ints], .inl ⟨rfl, rfl⟩⟩, fun g e => by cases e⟩
section
set_option maxRecDepth 100000
variable {n T : Nat}
theorem rnew_none (a t : Int) (hm : a < 1 ∨ 64 < a ∨ t < 1 ∨ 1024 < t) (w : World) : Calls Try.prog 10 #[.int .i64 a, .int .i64 t] w fun e w' => e = .returned (.pointer none) ∧ w' = w := by
  by_cases h1 : a < 1
  · go_enter Try.func10, Try.ntmps10
    go_wp2_with fail
    go_ret
    exact ⟨rfl, rfl⟩
  by_cases h2 : 64 < a
  · go_enter Try.func10, Try.ntmps10
    go_wp2_with fail
    go_ret
    exact ⟨rfl, rfl⟩
  by_cases h3 : t < 1
  · go_enter Try.func10, Try.ntmps10
    go_wp2_with fail
    go_ret
    exact ⟨rfl, rfl⟩
  · have h4 : 1024 < t := by omega
    go_enter Try.func10, Try.ntmps10
    go_wp2_with fail
    go_ret
    exact ⟨rfl, rfl⟩
set_option maxHeartbeats 4000000 in
theorem rnew_some (h1 : 1 ≤ n) (h2 : n ≤ 64) (h3 : 1 ≤ T) (h4 : T ≤ 1024) (w : World) :
    Calls Try.prog 10 #[.int .i64 n, .int .i64 T] w fun e w' => ∃ M R, e = .returned (.pointer (some ⟨M, 0, none⟩)) ∧ RQ w' M R n T (new n T) ∧ Step [] w R w' := by
  have m1 := mk_int n (by omega)
  have m2 := mk_rows n h2
  have m3 := mk_int T (by omega)
  have a1 : ¬ (n : Int) < 1 := by omega
  have a2 : ¬ (64 : Int) < (n : Int) := by omega
  have a3 : ¬ (T : Int) < 1 := by omega
  have a4 : ¬ (1024 : Int) < (T : Int) := by omega
  have hok := Ok.new h1 h2 h3 h4
  go_enter Try.func10, Try.ntmps10
  go_upto_region 3 with fail
  go_cut [5] from 21 to 31 (fun s5 wx => ∃ M ob wb sb ab : Nat, s5 = .pointer (some ⟨M, 0, none⟩) ∧ RM wx M ob wb sb ab [M, ob, wb, sb, ab] n T (List.replicate n (.slice none 0 0)) (List.replicate n (.slice none 0 0)) ⟨own0 n 0, List.replicate (n + n) [], List.replicate T 0⟩ ∧ (∀ k ∈ [M, ob, wb, sb, ab], w.heap.size ≤ k) ∧ Below w.heap.size w wx)
  case first =>
    go_region
    all_goals
      go_wp2_with fail
      go_meet
      case rel =>
        generalize hW : World.drew _ = X
        have hz : X.heap.size = w.heap.size + 1 + 1 + 1 + 1 + 1 := by rw [← hW]; simp [World.drew]
        obtain ⟨z0, z1, z2, z3, z4, hb⟩ := laid5 w _ _ _ _ _ hW.symm
        clear hW m1 m2 m3
        have hrep : ∀ k, k < n → (List.replicate n (Value.slice none 0 0))[k]? = some (.slice none 0 0) := fun k hk => by rw [List.getElem?_replicate, if_pos hk]
        have hW0 : ∀ k, k < n → W ⟨own0 n 0, List.replicate (n + n) [], List.replicate T 0⟩ k = [] := fun k hk => by
          have : k < n + n := by omega
          simp [W, List.getD_eq_getElem?_getD, this]
        have hS0 : ∀ k, k < n → S ⟨own0 n 0, List.replicate (n + n) [], List.replicate T 0⟩ k = [] := fun k hk => by
          have : n + k < n + n := by omega
          simp [S, own0, List.getD_eq_getElem?_getD, this]
        refine ⟨_, _, _, _, _, rfl, ⟨⟨n, n, n, T, z4⟩, ?_, ?_, ?_, ?_, fun k hk => ⟨_, hrep k hk, by rw [hW0 k hk]; exact rowF_nil _ _ _⟩, fun k hk => ⟨_, hrep k hk, by rw [hS0 k hk]; exact rowF_nil _ _ _⟩, by simp <;> omega, fun x hx => hx, fun x hx => by rw [hz]; simp at hx; omega, by simp [own0], by simp, by simp⟩, (by simp <;> omega), hb⟩
        · rw [own0_zero]
          first | exact row_made z0 | exact row_made z1 | exact row_made z2 | exact row_made z3
        · first | exact row_made z0 | exact row_made z1 | exact row_made z2 | exact row_made z3
        · first | exact row_made z0 | exact row_made z1 | exact row_made z2 | exact row_made z3
        · rw [zero_ag]
          first | exact row_made z0 | exact row_made z1 | exact row_made z2 | exact row_made z3
  case rest =>
    obtain ⟨M, ob, wb, sb, ab, rfl, hm, hk, hb⟩ := hcut
    clear m1 m2 m3
    obtain ⟨c, c1⟩ := hm.c1
    go_wp2_with fail
    go_loopw [37, 6] (fun v _ wr => ∃ j : Nat, j ≤ n ∧ v = .int .i64 j ∧ RM wr M ob wb sb ab [M, ob, wb, sb, ab] n T (List.replicate n (.slice none 0 0)) (List.replicate n (.slice none 0 0)) ⟨own0 n j, List.replicate (n + n) [], List.replicate T 0⟩ ∧ Below w.heap.size w wr) (fun v _ _ => 64 - (intOf v).toNat)
    case atStart => exact ⟨0, by omega, rfl, hm, hb⟩
    case round =>
      clear hm hb c1
      obtain ⟨j, hj, rfl, hm, hb⟩ := hrel
      obtain ⟨c, c1⟩ := hm.c1
      by_cases hlt : j < n
      · have c0 := hm.own hlt
        have f0 := (hm.fz j).1
        have hlt' : (j : Int) < (n : Int) := by omega
        have hN := hm.setO j (-1)
        dsimp only at hN
        rw [own0_set] at hN
        have hB : Below w.heap.size w (wr.setCell ⟨ob, j, none⟩ (.int .i64 (-1))) := hb.trans (((But.refl [ob] wr).set (p := ⟨ob, j, none⟩) (by simp) _).below hb.size (fun x hx => by simp at hx; subst hx; exact hk x (by simp)))
        go_wp2_with fail
        go_roundw
        case rel => exact ⟨j + 1, by omega, by simp, hN, hB⟩
        case measure =>
          simp [intOf]
          omega
      · obtain rfl : j = n := by omega
        rw [own0_end] at hm
        go_wp2_with fail
        go_ret
        exact ⟨_, _, rfl, ⟨hok, _, _, _, _, _, _, hm⟩, .of_below hb, fun x hx => .inr (hk x hx)⟩
end
end Go.Proofs.Ytimoleijdfoahaa.Lo
