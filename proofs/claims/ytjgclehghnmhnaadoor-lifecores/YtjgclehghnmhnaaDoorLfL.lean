/- busy, cached, Count: the table's map is gone over. -/
import Derived.Test.YtjgclehghnmhnaaDoorLfF
namespace Go.Proofs.YtjgclehghnmhnaaDoor
open Go Go.RowKit

section
variable {w : World} {B S G M N : Nat} {pb : Int → Nat} {σ : Sta}

theorem busy_of {xs : List Ac} {c : Int} {a : Ac} (ha : a ∈ xs) (h : a.co = c) : busyB xs c = true := by
  unfold busyB
  exact List.any_eq_true.2 ⟨a, ha, by simpa using h⟩
theorem busy_no {xs : List Ac} {c : Int} (h : ∀ a ∈ xs, a.co ≠ c) : busyB xs c = false := by
  unfold busyB
  exact List.any_eq_false.2 fun a ha => by simpa using h a ha

set_option maxHeartbeats 2000000 in
set_option maxRecDepth 100000 in
theorem busy_any (h : TM w B S G M N pb σ) (c : Int) :
    Calls Tryd.prog 48 #[.pointer (some ⟨B, 0, none⟩), .int .i64 c] w fun e w' => e = .returned (.bool (busyB σ.xs c)) ∧ Below w.heap.size w w' := by
  have c1 := h.c1
  have hm := h.m
  go_enter Tryd.func48, Tryd.ntmps48
  go_wp2_with (first
    | (at_range; refine wpList_rangeP _ rfl _ rfl M _ _ rfl hm ?_; intro w0 hrg0 hb0 hs0)
    | go_in)
  go_frame
  have hB0 : Below w.heap.size w w0 := hb0.to_below
  clear hb0 hs0
  go_loopw [6] (fun _ wr => ∃ (left : Int → Bool) (cnt : Nat), RG wr M w.heap.size σ.xs.length (fB pb σ.xs) left cnt ∧ Below w.heap.size w wr ∧ ∀ a ∈ σ.xs, left a.id = false → a.co ≠ c) (fun _ wr => wr.rangeLeft M w.heap.size)
  case atStart => exact ⟨_, _, hrg0, hB0, fun a ha hl => by rw [fB_some h.ok ha] at hl; cases hl⟩
  case round =>
    clear hrg0 hB0
    obtain ⟨left, cnt, hrg, hB, hno⟩ := hrel
    have HNO : Hid (∀ a ∈ σ.xs, left a.id = false → a.co ≠ c) := hno
    clear hno
    go_wp2_with (first
      | (at_next; refine wpList_nextP _ rfl _ rfl M w.heap.size _ _ _ _ rfl hrg ?_ ?_)
      | go_in)
    · intro hdone
      have HE : Hid (busyB σ.xs c = false) := busy_no fun a ha => HNO.out a ha (hdone a.id _ (fB_some h.ok ha))
      clear hdone
      go_wp2_with fail
      go_ret
      exact ⟨by rw [HE.out]; rfl, hB⟩
    · intro i b w1 cnt1 hf hl hrg1 hlt hb1 hs1 hen
      obtain ⟨a, ha, rfl, rfl⟩ := fB_inv hf
      have hB1 : Below w.heap.size w w1 := hB.trans (hb1.below hB.size (by simp))
      have c3 : w1.cell? ⟨pb a.id, 3, none⟩ = some (.int .i64 a.co) := ((h.a a ha).below hB1).cell (j := 3) rfl
      clear hf hb1 hs1 hl
      by_cases hc : a.co = c
      · have hc' : (a.co == c) = true := by simpa using hc
        have HE : Hid (busyB σ.xs c = true) := busy_of ha hc
        clear hc
        go_wp2_with fail
        go_ret
        exact ⟨by rw [HE.out]; rfl, hB1⟩
      · have hc' : (a.co == c) = false := by simpa using hc
        have HC := Hid.mk hc
        clear hc
        go_wp2_with fail
        go_roundw
        case rel =>
          refine ⟨_, _, hrg1, hB1, fun x hx hxl => ?_⟩
          by_cases e : x.id = a.id
          · have e1 := fnd_mem h.ok.srt hx
            rw [e, fnd_mem h.ok.srt ha] at e1
            rw [← Option.some.inj e1]
            exact HC.out
          · refine HNO.out x hx ?_
            simpa [e] using hxl
        case measure =>
          rw [hrg1.left_eq, hrg.left_eq]
          exact hlt

/-- How many that have come are so. -/
def cntL (xs : List Ac) (sp st : Int) (left : Int → Bool) : Nat := (xs.filter (fun a => !left a.id && (a.sp == sp && a.st == st))).length
theorem cntL_le (xs : List Ac) (sp st : Int) (left : Int → Bool) : cntL xs sp st left ≤ xs.length := List.length_filter_le _ _
theorem cntL_start {xs : List Ac} {sp st : Int} {left : Int → Bool} (h : ∀ a ∈ xs, left a.id = true) : cntL xs sp st left = 0 := by
  unfold cntL
  rw [List.length_eq_zero_iff, List.filter_eq_nil_iff]
  intro a ha
  simp [h a ha]
theorem cntL_end {xs : List Ac} {sp st : Int} {left : Int → Bool} (h : ∀ a ∈ xs, left a.id = false) : cntL xs sp st left = cntA xs sp st := by
  unfold cntL cntA
  congr 1
  refine List.filter_congr fun a ha => ?_
  simp [h a ha]
theorem cntL_step {sp st : Int} {left : Int → Bool} : ∀ {xs : List Ac}, Srt xs → ∀ {a : Ac}, a ∈ xs → left a.id = true → cntL xs sp st (fun j => left j && !(j == a.id)) = cntL xs sp st left + (if (a.sp == sp && a.st == st) = true then 1 else 0)
  | x :: r, hs, a, ha, hl => by
    obtain ⟨h1, h2⟩ := List.pairwise_cons.1 hs
    unfold cntL
    rcases List.mem_cons.1 ha with rfl | ha
    · have hr : r.filter (fun y => !(left y.id && !(y.id == a.id)) && (y.sp == sp && y.st == st)) = r.filter (fun y => !left y.id && (y.sp == sp && y.st == st)) := List.filter_congr fun y hy => by
        have := h1 y hy
        have hne : (y.id == a.id) = false := by simp; omega
        simp [hne]
      rw [List.filter_cons, List.filter_cons, hr]
      simp only [hl, BEq.rfl, Bool.not_true, Bool.and_false, Bool.not_false, Bool.true_and, Bool.false_and]
      split <;> simp
    · have := h1 a ha
      have hne : (x.id == a.id) = false := by simp; omega
      have ih := cntL_step (sp := sp) (st := st) (left := left) h2 ha hl
      unfold cntL at ih
      rw [List.filter_cons, List.filter_cons]
      simp only [hne, Bool.not_false, Bool.and_true]
      split
      · rw [List.length_cons, List.length_cons, ih]
        omega
      · exact ih

set_option maxHeartbeats 2000000 in
set_option maxRecDepth 100000 in
theorem count_any (h : TM w B S G M N pb σ) (sp st : Int) :
    Calls Tryd.prog 15 #[.pointer (some ⟨B, 0, none⟩), .int .i64 sp, .int .i64 st] w fun e w' => e = .returned (.int .i64 (cntA σ.xs sp st)) ∧ Below w.heap.size w w' := by
  have c1 := h.c1
  have hm := h.m
  have hM := tmade h
  have hlen : σ.xs.length ≤ 4096 := Nat.le_trans h.ok.len h.ok.n4
  go_enter Tryd.func15, Tryd.ntmps15
  go_wp2_with (first
    | (go_at_call 40; refine hM.mono ?_; rintro e w' ⟨rfl, hw⟩; subst w')
    | (at_range; refine wpList_rangeP _ rfl _ rfl M _ _ rfl hm ?_; intro w0 hrg0 hb0 hs0)
    | go_in)
  go_frame
  have hB0 : Below w.heap.size w w0 := hb0.to_below
  clear hb0 hs0
  go_loopw [7, 9] (fun v _ wr => ∃ (left : Int → Bool) (cnt k : Nat), v = .int .i64 k ∧ RG wr M w.heap.size σ.xs.length (fB pb σ.xs) left cnt ∧ Below w.heap.size w wr ∧ k = cntL σ.xs sp st left) (fun _ _ wr => wr.rangeLeft M w.heap.size)
  case atStart => exact ⟨_, _, 0, rfl, hrg0, hB0, (cntL_start fun a ha => by rw [fB_some h.ok ha]; rfl).symm⟩
  case round =>
    clear hrg0 hB0
    obtain ⟨left, cnt, k, rfl, hrg, hB, hk⟩ := hrel
    have HK := Hid.mk hk
    have hkl : k ≤ 4096 := by rw [hk]; exact Nat.le_trans (cntL_le _ _ _ _) hlen
    clear hk
    go_wp2_with (first
      | (at_next; refine wpList_nextP _ rfl _ rfl M w.heap.size _ _ _ _ rfl hrg ?_ ?_)
      | go_in)
    · intro hdone
      have HE : Hid (k = cntA σ.xs sp st) := by
        rw [HK.out]
        exact cntL_end fun a ha => hdone a.id _ (fB_some h.ok ha)
      clear hdone
      go_wp2_with fail
      go_ret
      exact ⟨by rw [HE.out]; rfl, hB⟩
    · intro i b w1 cnt1 hf hl hrg1 hlt hb1 hs1 hen
      obtain ⟨a, ha, rfl, rfl⟩ := fB_inv hf
      have hB1 : Below w.heap.size w w1 := hB.trans (hb1.below hB.size (by simp))
      have c2 : w1.cell? ⟨pb a.id, 2, none⟩ = some (.int .i64 a.sp) := ((h.a a ha).below hB1).cell (j := 2) rfl
      have c1' : w1.cell? ⟨pb a.id, 1, none⟩ = some (.int .i64 a.st) := ((h.a a ha).below hB1).cell (j := 1) rfl
      have hst := cntL_step (sp := sp) (st := st) h.ok.srt ha hl
      rw [← HK.out] at hst
      have hw1 : IntKind.i64.wrap ((k : Int) + 1) = ((k + 1 : Nat) : Int) := by rw [IntKind.wrap_i64]; omega
      clear hf hb1 hs1 hl
      cases hp : (a.sp == sp)
      · rw [hp] at hst
        have HS : Hid (k = cntL σ.xs sp st (fun j => left j && !(j == a.id))) := by rw [hst]; rfl
        clear hst
        go_wp2_with fail
        go_roundw
        case rel => exact ⟨_, _, k, rfl, hrg1, hB1, HS.out⟩
        case measure =>
          rw [hrg1.left_eq, hrg.left_eq]
          exact hlt
      · cases hq : (a.st == st)
        · rw [hp, hq] at hst
          have HS : Hid (k = cntL σ.xs sp st (fun j => left j && !(j == a.id))) := by rw [hst]; rfl
          clear hst
          go_wp2_with fail
          go_roundw
          case rel => exact ⟨_, _, k, rfl, hrg1, hB1, HS.out⟩
          case measure =>
            rw [hrg1.left_eq, hrg.left_eq]
            exact hlt
        · rw [hp, hq] at hst
          have HS : Hid (k + 1 = cntL σ.xs sp st (fun j => left j && !(j == a.id))) := by rw [hst]; rfl
          clear hst
          go_wp2_with fail
          go_roundw
          case rel => exact ⟨_, _, k + 1, by simp, hrg1, hB1, HS.out⟩
          case measure =>
            rw [hrg1.left_eq, hrg.left_eq]
            exact hlt
end
end Go.Proofs.YtjgclehghnmhnaaDoor
