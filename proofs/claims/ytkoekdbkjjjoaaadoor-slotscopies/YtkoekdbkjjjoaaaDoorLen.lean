/- Contract of Len. -/
import Derived.Test.YtkoekdbkjjjoaaaDoorNew
import Derived.Deep.Cut
namespace Go.Proofs.YtkoekdbkjjjoaaaDoor
open Go.RowKit

/-- How many bits the first k words have. -/
def sumF (fs : List Nat) (k : Nat) : Nat := ((List.range (64 * k)).filter (bitF fs)).length

theorem sumF_succ (fs : List Nat) (k x : Nat) (hx : fs[k]? = some x) : sumF fs (k + 1) = sumF fs k + (mem x).length := by
  unfold sumF
  rw [Nat.mul_add, Nat.mul_one, List.range_add, List.filter_append, List.length_append]
  congr 1
  rw [List.filter_map, List.length_map]
  unfold mem memF
  congr 1
  apply List.filter_congr
  intro r hr
  have hr : r < 64 := List.mem_range.1 hr
  show bitF fs (64 * k + r) = x.testBit r
  unfold bitF
  rw [show (64 * k + r) / 64 = k by omega, show (64 * k + r) % 64 = r by omega, List.getD_eq_getElem?_getD, hx]
  rfl
theorem sumF_le (fs : List Nat) (k : Nat) : sumF fs k ≤ 64 * k := by
  have := List.length_filter_le (bitF fs) (List.range (64 * k))
  simpa [sumF] using this

theorem filter_count (tk : List Bool) : ∀ m, ((List.range m).filter (fun i => tk[i]? == some false)).length = (tk.take m).count false
  | 0 => by simp
  | m + 1 => by
    rw [List.range_succ, List.filter_append, List.length_append, filter_count tk m, List.take_add_one, List.count_append]
    congr 1
    cases h : tk[m]? with
    | none => simp [h]
    | some b => cases b <;> simp [h]
theorem count_both : ∀ (tk : List Bool), tk.count true + tk.count false = tk.length
  | [] => rfl
  | b :: l => by
    have := count_both l
    cases b <;> simp <;> omega

theorem sum_all {fs : List Nat} {tk : List Bool} (hb : ∀ i, bitF fs i = (tk[i]? == some false)) (hl : tk.length ≤ 4096) : (tk.length : Int) - (sumF fs 64 : Int) = ((tk.count true : Nat) : Int) := by
  have e : sumF fs 64 = tk.count false := by
    unfold sumF
    have : bitF fs = fun i => (tk[i]? == some false) := funext hb
    rw [this, filter_count, List.take_of_length_le hl]
  have := count_both tk
  rw [e]
  omega

section
variable {w w' : World} {B G n : Nat} {ag : List Nat} {tk : List Bool}

set_option maxHeartbeats 4000000 in
theorem len_any (hsq : SQ w B G n ag tk) :
    Calls Tryd.prog 17 #[.pointer (some ⟨B, 0, none⟩)] w fun e w' => e = .returned (.int .i64 ((tk.count true : Nat) : Int)) ∧ w' = w := by
  obtain ⟨c, fs, hm, hl, hb⟩ := hsq
  have hM := made_any hm
  have hi51 : (Tryd.prog.info? 51).map (·.size) = some (fs.map (fun x : Nat => Value.int .u64 x)).length := by rw [List.length_map, hm.flen]; exact info51
  have c64 := hm.c64
  have hn := hm.le
  have hsum := sum_all hb (by omega)
  rw [hl] at hsum
  have HS : Aside (∀ (k : Nat), k < 64 → ∃ x, fs[k]? = some x ∧ x < 18446744073709551616) := fun k hk => by
    have hlk : k < fs.length := by rw [hm.flen]; exact hk
    exact ⟨fs[k], List.getElem?_eq_getElem hlk, hm.fb _ (List.getElem_mem hlk)⟩
  have HI : Aside (∀ k x : Nat, k < 64 → fs[k]? = some x → ∀ w, (Instr.index 51 (.agg (fs.map (fun x : Nat => Value.int .u64 x)).toArray) (.int .i64 k)).run Tryd.prog w = .ok (.int .u64 x) w) := fun k x hk hx w => index51 _ k (.int .u64 x) hk (by simp [hx]) w
  rw [← hsum]
  have HN : Hid ((n : Int) ≤ 4096) := by show (n : Int) ≤ 4096; omega
  clear hsum hb hl
  generalize ecs : (fs.map (fun x : Nat => Value.int .u64 x)).toArray = cs at HI
  go_enter Tryd.func17, Tryd.ntmps17
  go_upto_region 4 with (go_at_call 29; refine hM.mono ?_; rintro e w' ⟨rfl, hw⟩; subst w')
  iterate 10 go_step
  refine wpList_load_mid rfl 51 (.tmp 16) rfl B 0 rfl _ _ hm.range Tryd.underlying51 rfl hi51 ?_
  rw [ecs]
  go_wp2_with fail
  go_loopw [3, 18] (fun p q wr => ∃ k : Nat, k ≤ 64 ∧ p = .int .i64 ((n : Int) - (sumF fs k : Int)) ∧ q = .int .i64 k ∧ wr = w) (fun _ q _ => 64 - (intOf q).toNat)
  case atStart => exact ⟨0, by omega, by simp [sumF], rfl, rfl⟩
  case round =>
    obtain ⟨k, hk, rfl, rfl, rfl⟩ := hrel
    by_cases hlt : k < 64
    · have hlt' : (k : Int) < 64 := by omega
      obtain ⟨x, hx, hx1⟩ := HS.out k hlt
      have hi := HI.out k x hlt hx wr
      have hO := ones_any x wr hx1
      have e1 := sumF_succ fs k x hx
      have e2 := sumF_le fs k
      have e3 := mem_length_le x
      have hN := HN.out
      have hw1 : IntKind.i64.wrap ((n : Int) - (sumF fs k : Int) - ((mem x).length : Nat)) = (n : Int) - (sumF fs (k + 1) : Int) := by
        rw [IntKind.wrap_i64, e1]
        omega
      clear e1 e2 e3 hN hx hn
      go_wp2_with (go_at_call 33; refine hO.mono ?_; rintro e w' ⟨rfl, hw⟩; subst w')
      go_roundw
      case rel => exact ⟨k + 1, by omega, by trivial, by simp, by trivial⟩
      case measure =>
        simp [intOf]
        omega
    · obtain rfl : k = 64 := by omega
      go_wp2_with fail
      go_ret
      exact ⟨rfl, rfl⟩
end
end Go.Proofs.YtkoekdbkjjjoaaaDoor
