/- The contract of the reference's Of: an int as a number of any size. -/
import Derived.Test.YtdfccjhmpgoacaaNRow
namespace Go.Proofs.Ytdfccjhmpgoacaa.Big
open Go.RowKit

theorem canon_nil : Canon [] := fun r d h => by simp at h
theorem canon_snoc {ds : List Int} {d : Int} (h : d ≠ 0) : Canon (ds ++ [d]) := by
  intro r x e
  have := List.append_inj' e rfl
  simp at this
  rw [← this.2]; exact h
theorem of_step {out : List Int} {r A : Int} (h : val out + pw out.length * r = A) : val (out ++ [r % 65536]) + pw (out ++ [r % 65536]).length * (r / 65536) = A := by
  have h2 := sum_step (out := out) (i := out.length) (c := r) (x := 0) (y := 0) (A := 0) (B := 0) (V := A) rfl (by simpa using h)
  simpa using h2
theorem of_short {out : List Int} {r A : Int} (hd : Dig out) (h : val out + pw out.length * r = A) (hr : 0 < r) (hA : A < 18446744073709551616) : out.length < 4 := by
  have h0 := val_nonneg hd
  have hp := pw_pos out.length
  have h1 : pw out.length * 1 ≤ pw out.length * r := Int.mul_le_mul_of_nonneg_left (by omega) (by omega)
  have h2 : ¬ 4 ≤ out.length := fun hc => by have := pw_le hc; have e : pw 4 = 18446744073709551616 := rfl; omega
  omega

set_option maxHeartbeats 1000000 in
theorem of_any (a : Int) (w : World) (ha0 : -9223372036854775808 ≤ a) (ha1 : a ≤ 9223372036854775807) :
    Calls Try.prog 26 #[.int .i64 a] w fun e w' => ∃ v, e = .returned v ∧ Wd w' v a ∧ Below w.heap.size w w' := by
  obtain ⟨i0, hi, hz0, hz1, hz2⟩ := info_parts infoU32
  obtain ⟨b0, b1⟩ := abs_bd ha0 ha1
  go_enter Try.func26, Try.ntmps26
  by_cases hneg : a < 0
  · have hab : IntKind.u64.wrap (-(IntKind.u64.wrap a)) = absI a := by unfold absI; rw [if_pos hneg, IntKind.wrap_u64, IntKind.wrap_u64]; omega
    go_wp2_with fail
    go_loopw [3, 4] (fun u d wr => ∃ (out : List Int) (r : Int), 0 ≤ r ∧ r < 18446744073709551616 ∧ u = .int .u64 r ∧ wr.ownsRow (w.heap.size + 1) 61 1 d out.length (out.map (Value.int .u32)) ∧ Dig out ∧ Hid (val out + pw out.length * r = absI a) ∧ Hid (r = 0 → Canon out) ∧ Below (w.heap.size + 1) (w.alloc (Obj.cells #[Value.bool false, Value.slice none 0 0] 44)) wr ∧ w.heap.size + 1 ≤ wr.heap.size) (fun u _ _ => (intOf u).toNat)
    case atStart => exact ⟨[], absI a, b0, by omega, rfl, World.ownsRow_nil _ _ _ _, dig_nil, (by unfold Hid; show 0 + 1 * absI a = absI a; omega), fun _ => canon_nil, Below.refl _ _, by simp⟩
    case round =>
      obtain ⟨out, r, r0, r1, rfl, hown, hdig, hval, hcan, hbel, hB⟩ := hrel
      by_cases hr : 0 < r
      · have hl := land16_u64 r r0 r1
        have hshort := of_short hdig hval.out hr (by omega)
        go_wp2_with (at_builtin; refine wpList_append_own _ rfl _ _ 42 rfl (w.heap.size + 1) 61 i0 (.int .u32 0) 1 4 Try.underlying42 hi hz0 hz1 hz2 rfl (by decide) _ _ _ rfl (hown.alloc _) ⟨wr.heap.size, 0, none⟩ 1 1 [.int .u32 (r % 65536)] rfl rfl ?c1 ?c2 ?c3 ?c4 ?c5 ?_)
        case c1 =>
          intro j u hj
          match j, hj with
          | 0, hj => simp at hj; subst hj; simp [Addr.add]
        case c2 => intro u hu; simp at hu; subst hu; rfl
        case c3 => unfold maxLen; omega
        case c4 => omega
        case c5 => simp; omega
        · intro v' w1 hown' hgrow _
          have R := own_step hbel hB hown hown' hgrow
          clear hown' hgrow hown
          go_wp2
          go_roundw
          case rel => exact ⟨out ++ [r % 65536], r / 65536, by omega, by omega, rfl, R.1, dig_snoc hdig (by omega) (by omega), of_step hval.out, fun h => canon_snoc (by omega), R.2.1, R.2.2⟩
          case measure => simp [intOf]; omega
      · have hz : r = 0 := by omega
        subst hz
        have hk0 : wr.cell? ⟨w.heap.size, 0, none⟩ = some (.bool false) := by rw [hbel.cell (p := ⟨w.heap.size, 0, none⟩) (by simp)]; simp [go_sem]
        have hk1 : wr.cell? ⟨w.heap.size, 1, none⟩ = some (.slice none 0 0) := by rw [hbel.cell (p := ⟨w.heap.size, 1, none⟩) (by simp)]; simp [go_sem]
        have hf0 : wr.frozen? ⟨w.heap.size, 0, none⟩ = false := by rw [hbel.frozen (p := ⟨w.heap.size, 0, none⟩) (by simp)]; simp [go_sem]
        have hf1 : wr.frozen? ⟨w.heap.size, 1, none⟩ = false := by rw [hbel.frozen (p := ⟨w.heap.size, 1, none⟩) (by simp)]; simp [go_sem]
        have hrow := row_of_own hown
        have hrow2 := hrow
        obtain ⟨oa, cap, rfl, _, _, _, _⟩ := hrow2
        clear hown
        go_wp2
        exact bodyPost_ret (v := .agg #[.bool true, .slice oa out.length cap]) (by simp [results, Try.results26, go_sem, hk0, hk1]) rfl ⟨_, rfl, ⟨_, out, by simp [hneg], hrow.set2 hk0 hk1, hdig, hcan.out trivial, by have := hval.out; omega⟩, ((((below_alloc w _).trans (hbel.mono (by omega))).setCell (by simp) _).setCell (by simp) _)⟩
  · have hab : absI a = a := by unfold absI; rw [if_neg hneg]
    have hneg' : decide (a < 0) = false := by simpa using hneg
    have hge : 0 ≤ a := by omega
    go_wp2_with fail
    go_loopw [3, 4] (fun u d wr => ∃ (out : List Int) (r : Int), 0 ≤ r ∧ r < 18446744073709551616 ∧ u = .int .u64 r ∧ wr.ownsRow (w.heap.size + 1) 61 1 d out.length (out.map (Value.int .u32)) ∧ Dig out ∧ Hid (val out + pw out.length * r = absI a) ∧ Hid (r = 0 → Canon out) ∧ Below (w.heap.size + 1) (w.alloc (Obj.cells #[Value.bool false, Value.slice none 0 0] 44)) wr ∧ w.heap.size + 1 ≤ wr.heap.size) (fun u _ _ => (intOf u).toNat)
    case atStart => exact ⟨[], absI a, b0, by omega, by rw [hab], World.ownsRow_nil _ _ _ _, dig_nil, (by unfold Hid; show 0 + 1 * absI a = absI a; omega), fun _ => canon_nil, Below.refl _ _, by simp⟩
    case round =>
      obtain ⟨out, r, r0, r1, rfl, hown, hdig, hval, hcan, hbel, hB⟩ := hrel
      by_cases hr : 0 < r
      · have hl := land16_u64 r r0 r1
        have hshort := of_short hdig hval.out hr (by omega)
        go_wp2_with (at_builtin; refine wpList_append_own _ rfl _ _ 42 rfl (w.heap.size + 1) 61 i0 (.int .u32 0) 1 4 Try.underlying42 hi hz0 hz1 hz2 rfl (by decide) _ _ _ rfl (hown.alloc _) ⟨wr.heap.size, 0, none⟩ 1 1 [.int .u32 (r % 65536)] rfl rfl ?c1 ?c2 ?c3 ?c4 ?c5 ?_)
        case c1 =>
          intro j u hj
          match j, hj with
          | 0, hj => simp at hj; subst hj; simp [Addr.add]
        case c2 => intro u hu; simp at hu; subst hu; rfl
        case c3 => unfold maxLen; omega
        case c4 => omega
        case c5 => simp; omega
        · intro v' w1 hown' hgrow _
          have R := own_step hbel hB hown hown' hgrow
          clear hown' hgrow hown
          go_wp2
          go_roundw
          case rel => exact ⟨out ++ [r % 65536], r / 65536, by omega, by omega, rfl, R.1, dig_snoc hdig (by omega) (by omega), of_step hval.out, fun h => canon_snoc (by omega), R.2.1, R.2.2⟩
          case measure => simp [intOf]; omega
      · have hz : r = 0 := by omega
        subst hz
        have hk0 : wr.cell? ⟨w.heap.size, 0, none⟩ = some (.bool false) := by rw [hbel.cell (p := ⟨w.heap.size, 0, none⟩) (by simp)]; simp [go_sem]
        have hk1 : wr.cell? ⟨w.heap.size, 1, none⟩ = some (.slice none 0 0) := by rw [hbel.cell (p := ⟨w.heap.size, 1, none⟩) (by simp)]; simp [go_sem]
        have hf0 : wr.frozen? ⟨w.heap.size, 0, none⟩ = false := by rw [hbel.frozen (p := ⟨w.heap.size, 0, none⟩) (by simp)]; simp [go_sem]
        have hf1 : wr.frozen? ⟨w.heap.size, 1, none⟩ = false := by rw [hbel.frozen (p := ⟨w.heap.size, 1, none⟩) (by simp)]; simp [go_sem]
        have hrow := row_of_own hown
        have hrow2 := hrow
        obtain ⟨oa, cap, rfl, _, _, _, _⟩ := hrow2
        clear hown
        go_wp2
        exact bodyPost_ret (v := .agg #[.bool false, .slice oa out.length cap]) (by simp [results, Try.results26, go_sem, hk0, hk1]) rfl ⟨_, rfl, ⟨_, out, by rw [hneg'], hrow.set2 hk0 hk1, hdig, hcan.out trivial, by have := hval.out; omega⟩, ((((below_alloc w _).trans (hbel.mono (by omega))).setCell (by simp) _).setCell (by simp) _)⟩
end Go.Proofs.Ytdfccjhmpgoacaa.Big
