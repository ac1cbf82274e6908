/- Contract of least. -/
import Derived.Test.YtjgclehghnmhnaaDoorSLive
import Derived.WalkMore
import Derived.Deep.LoopGhost
import Derived.Deep.MidRow
namespace Go.Proofs.YtjgclehghnmhnaaDoor
open Go.RowKit

/-- May index i be taken? -/
def okB (ag : List Nat) (tk : List Bool) (i : Nat) : Bool := (tk[i]? == some false) && decide (ag.getD i 0 < 2147483647)
def leastO (ag : List Nat) (tk : List Bool) : Option Nat := (List.range tk.length).find? (okB ag tk)
def leastI (ag : List Nat) (tk : List Bool) : Int := match leastO ag tk with | some j => (j : Int) | none => -1

theorem okB_lt {ag : List Nat} {tk : List Bool} {i : Nat} (h : okB ag tk i = true) : i < tk.length := by
  unfold okB at h
  simp only [Bool.and_eq_true, beq_iff_eq] at h
  exact (List.getElem?_eq_some_iff.1 h.1).1
theorem leastO_some {ag : List Nat} {tk : List Bool} {j : Nat} (h : okB ag tk j = true) (hl : ∀ i, i < j → okB ag tk i = false) : leastO ag tk = some j := by
  unfold leastO
  rw [List.find?_range_eq_some]
  exact ⟨h, List.mem_range.2 (okB_lt h), fun i hi => by rw [hl i hi]; rfl⟩
theorem leastO_none {ag : List Nat} {tk : List Bool} (hl : ∀ i, okB ag tk i = false) : leastO ag tk = none := by
  unfold leastO
  rw [List.find?_eq_none]
  intro i _
  rw [hl i]
  simp
theorem leastO_iff {ag : List Nat} {tk : List Bool} {j : Nat} (h : leastO ag tk = some j) : okB ag tk j = true ∧ ∀ i, i < j → okB ag tk i = false := by
  unfold leastO at h
  rw [List.find?_range_eq_some] at h
  exact ⟨h.1, fun i hi => by have := h.2.2 i hi; simpa using this⟩

/-- The least bit is put out. -/
theorem memF_low : ∀ (f x : Nat), x < 2 ^ f → memF f (x &&& (x - 1)) = (memF f x).tail
  | 0, x, h => rfl
  | f + 1, x, h => by
    have h2 : x / 2 < 2 ^ f := by rw [Nat.pow_succ] at h; omega
    rw [memF_succ, memF_succ]
    have e1 : (x &&& (x - 1)) % 2 ≠ 1 := by
      intro hc
      have := Nat.testBit_and x (x - 1) 0
      rw [Nat.testBit_zero, Nat.testBit_zero, Nat.testBit_zero] at this
      simp [hc] at this
      omega
    rw [if_neg e1, List.nil_append]
    have e2 : (x &&& (x - 1)) / 2 = x / 2 &&& (x - 1) / 2 := by
      have := Nat.and_div_two_pow (a := x) (b := x - 1) (n := 1)
      simpa using this
    by_cases hb : x % 2 = 1
    · have e3 : (x - 1) / 2 = x / 2 := by omega
      rw [e2, e3, Nat.and_self, if_pos hb]
      simp
    · have e3 : (x - 1) / 2 = x / 2 - 1 := by omega
      rw [e2, e3, memF_low f (x / 2) h2, if_neg hb, List.nil_append, List.map_tail]
theorem mem_low {x : Nat} (h : x < 18446744073709551616) : mem (x &&& (x - 1)) = (mem x).tail := memF_low 64 x (by simpa using h)

theorem info51 : (Tryd.prog.info? 93).map (·.size) = some 64 := by kernel_rfl

theorem index51 (cs : Array Value) (k : Nat) (v : Value) (hk : k < 64) (h : cs[k]? = some v) (w : World) : (Instr.index 93 (.agg cs) (.int .i64 k)).run Tryd.prog w = .ok v w := by
  simp [Instr.index, asIntOf, run_underlying Tryd.underlying93, go_sem, hk, h]

section
variable {w w' : World} {B G n c : Nat} {fs ag : List Nat} {tk : List Bool}

theorem SlM.range (h : SlM w B G n c fs ag) : w.rangeAt B 0 (fs.map (fun x : Nat => Value.int .u64 x)) := by
  intro j v hv
  rw [Nat.zero_add]
  rw [List.getElem?_map] at hv
  cases hx : fs[j]? with
  | none => simp [hx] at hv
  | some x =>
    simp [hx] at hv
    subst hv
    exact h.f hx

/-- What is left of a word: those that are not looked at yet. -/
structure Lft (ag : List Nat) (tk : List Bool) (k x left : Nat) : Prop where
  lt : left < 18446744073709551616
  sub : ∀ r, left.testBit r = true → x.testBit r = true
  all : ∀ r, r < 64 → x.testBit r = true → left.testBit r = true ∨ okB ag tk (64 * k + r) = false

theorem Lft.head {k x left : Nat} (h : Lft ag tk k x left) (h0 : left ≠ 0) : ∃ r : Nat, r < 64 ∧ headI (mem left) = (r : Int) ∧ x.testBit r = true ∧ (∀ q, q < r → x.testBit q = true → okB ag tk (64 * k + q) = false) ∧
    (okB ag tk (64 * k + r) = false → Lft ag tk k x (left &&& (left - 1))) := by
  have hne : mem left ≠ [] := fun e => h0 ((mem_eq_nil h.lt).1 e)
  cases hm : mem left with
  | nil => exact absurd hm hne
  | cons r rest =>
    have hs := mem_sorted left
    rw [hm] at hs
    have hs := List.pairwise_cons.1 hs
    have hr : r ∈ mem left := by rw [hm]; simp
    obtain ⟨r1, r2⟩ := mem_mem.1 hr
    have hlow := mem_low h.lt
    rw [hm, List.tail_cons] at hlow
    refine ⟨r, r1, rfl, h.sub r r2, fun q hq hx => ?_, fun hk => ⟨and_lt h.lt, fun q hq => ?_, fun q hq hx => ?_⟩⟩
    · rcases h.all q (by omega) hx with hl | hl
      · exfalso
        have : q ∈ mem left := mem_mem.2 ⟨by omega, hl⟩
        rw [hm] at this
        rcases List.mem_cons.1 this with rfl | hq2
        · omega
        · have := hs.1 q hq2; omega
      · exact hl
    · rw [Nat.testBit_and, Bool.and_eq_true] at hq
      exact h.sub q hq.1
    · rcases h.all q hq hx with hl | hl
      · have : q ∈ mem left := mem_mem.2 ⟨hq, hl⟩
        rw [hm] at this
        rcases List.mem_cons.1 this with rfl | hq2
        · exact .inr hk
        · rw [← hlow] at hq2
          exact .inl (mem_mem.1 hq2).2
      · exact .inr hl

theorem Lft.none {k x r : Nat} (h : Lft ag tk k x 0) (hr : r < 64) (hx : x.testBit r = (tk[64 * k + r]? == some false)) : okB ag tk (64 * k + r) = false := by
  cases hb : x.testBit r
  · rw [hb] at hx
    unfold okB
    rw [← hx]
    rfl
  · rcases h.all r hr hb with h0 | h0
    · simp at h0
    · exact h0

set_option maxHeartbeats 4000000 in
set_option maxRecDepth 100000 in
theorem least_any (hsq : SlQ w B G n ag tk) (hT : Tab w) :
    Calls Tryd.prog 67 #[.pointer (some ⟨B, 0, none⟩)] w fun e w' => e = .returned (.int .i64 (leastI ag tk)) ∧ w' = w := by
  obtain ⟨c, fs, hm, hl, hb⟩ := hsq
  have hi51 : (Tryd.prog.info? 93).map (·.size) = some (fs.map (fun x : Nat => Value.int .u64 x)).length := by rw [List.length_map, hm.flen]; exact info51
  have c64 := hm.c64
  have HS : Aside (∀ (k : Nat), k < 64 → ∃ x, fs[k]? = some x ∧ x < 18446744073709551616 ∧ ∀ r, r < 64 → x.testBit r = (tk[64 * k + r]? == some false)) := fun k hk => by
    have hlk : k < fs.length := by rw [hm.flen]; exact hk
    refine ⟨fs[k], List.getElem?_eq_getElem hlk, hm.fb _ (List.getElem_mem hlk), fun r hr => ?_⟩
    rw [← hb (64 * k + r)]
    unfold bitF
    have e1 : (64 * k + r) / 64 = k := by omega
    have e2 : (64 * k + r) % 64 = r := by omega
    rw [e1, e2, List.getD_eq_getElem?_getD, List.getElem?_eq_getElem hlk]
    rfl
  have HI := fun k x hk hx => index51 (fs.map (fun x : Nat => Value.int .u64 x)).toArray k (.int .u64 x) hk hx
  generalize ecs : (fs.map (fun x : Nat => Value.int .u64 x)).toArray = cs at HI
  go_enter Tryd.func67, Tryd.ntmps67
  go_wp2_with fail
  go_step3
  go_wp2_with fail
  go_step3
  iterate 14 go_step
  refine wpList_load_mid rfl 93 (.tmp 9) rfl B 0 rfl _ _ hm.range Tryd.underlying93 rfl hi51 ?_
  rw [ecs]
  go_wp2_with fail
  go_loopw [3, 11] (fun p q wr => ∃ k : Nat, k ≤ 64 ∧ p = .int .i64 (-1) ∧ q = .int .i64 k ∧ wr = w ∧ ∀ i, i < 64 * k → okB ag tk i = false) (fun _ q _ => 64 - (intOf q).toNat)
  case atStart => exact ⟨0, by omega, rfl, rfl, rfl, fun i hi => by omega⟩
  case round =>
    obtain ⟨k, hk, rfl, rfl, rfl, hno⟩ := hrel
    by_cases hlt : k < 64
    · have hlt' : (k : Int) < 64 := by omega
      obtain ⟨x, hx, hx1, hx2⟩ := HS.out k hlt
      have hi := HI k x hlt (by rw [← ecs]; simp [hx]) wr
      have L0 : Lft ag tk k x x := ⟨hx1, fun _ h => h, fun _ _ h => .inl h⟩
      have Hno : Hid (∀ i, i < 64 * k → okB ag tk i = false) := hno
      have Hx2 : Hid (∀ r, r < 64 → x.testBit r = (tk[64 * k + r]? == some false)) := hx2
      clear hno hx2 hx
      go_wp2_with fail
      go_loopw [3, 5] (fun p q wx => ∃ y : Nat, p = .int .i64 (-1) ∧ q = .int .u64 y ∧ wx = wr ∧ Lft ag tk k x y) (fun _ q _ => (intOf q).toNat)
      case atStart => exact ⟨x, rfl, rfl, rfl, L0⟩
      case round =>
        obtain ⟨y, rfl, rfl, rfl, L⟩ := hrel
        by_cases hy : y = 0
        · subst hy
          go_wp2_with fail
          go_roundw
          case rel =>
            refine ⟨k + 1, by omega, by trivial, by simp, by trivial, fun i hi => ?_⟩
            by_cases h1 : i < 64 * k
            · exact Hno.out i h1
            · have e : i = 64 * k + (i - 64 * k) := by omega
              rw [e]
              exact L.none (by omega) (Hx2.out _ (by omega))
          case measure =>
            simp [intOf]
            omega
        · obtain ⟨r, hr, eh, hxr, hbel, hnx⟩ := L.head hy
          have htk : tk[64 * k + r]? = some false := by
            have htk := Hx2.out r hr
            rw [hxr] at htk
            simpa using htk.symm
          have hjn : 64 * k + r < n := by rw [← hl]; exact (List.getElem?_eq_some_iff.1 htk).1
          have hn := hm.le
          obtain ⟨a, ha⟩ : ∃ a, ag[64 * k + r]? = some a := ⟨_, List.getElem?_eq_getElem (by rw [hm.alen]; exact hjn)⟩
          have hc := hm.a ha
          have hok : okB ag tk (64 * k + r) = decide (a < 2147483647) := by
            unfold okB
            rw [htk, List.getD_eq_getElem?_getD, ha]
            simp
          have hlow : Hid (∀ i, i < 64 * k + r → okB ag tk i = false) := fun i hi => by
            by_cases h1 : i < 64 * k
            · exact Hno.out i h1
            · have e : i = 64 * k + (i - 64 * k) := by omega
              rw [e]
              cases hb : x.testBit (i - 64 * k)
              · have := Hx2.out (i - 64 * k) (by omega)
                rw [hb] at this
                unfold okB
                rw [← this]
                rfl
              · exact hbel _ (by omega) hb
          have hz := tz64_any y L.lt hy wr hT
          rw [eh] at hz
          have hy' : ((y : Int) == 0) = false := by simp; exact hy
          have hw1 : IntKind.i64.wrap ((k : Int) * 64) = (k : Int) * 64 := by rw [IntKind.wrap_i64]; omega
          have hw2 : IntKind.i64.wrap ((k : Int) * 64 + (r : Int)) = ((64 * k + r : Nat) : Int) := by rw [IntKind.wrap_i64]; omega
          clear hxr hbel htk eh HI
          generalize 64 * k + r = j at hjn ha hc hok hlow hw2 hnx
          have hj0 : (0 : Int) ≤ (j : Int) := by omega
          have hj1 : (j : Int) < (n : Int) := by omega
          by_cases hlt2 : a < 2147483647
          · have hok' : Hid (okB ag tk j = true) := by rw [hok]; exact decide_eq_true hlt2
            clear hok hnx
            have hlt3 : (a : Int) < 2147483647 := by omega
            clear hlt2 hy hn ha
            generalize (a : Int) = z at hc hlt3
            go_wp2_with (go_at_call 74; refine hz.mono ?_; rintro e w' ⟨rfl, hw⟩; subst w')
            try rw [Exit.noGoto_ret]
            go_ret
            refine ⟨?_, rfl⟩
            unfold leastI
            rw [leastO_some hok'.out hlow.out]
            rfl
          · have hok' : okB ag tk j = false := by rw [hok]; exact decide_eq_false hlt2
            have L' := hnx hok'
            clear hok hnx hok' hlow
            have hlt3 : ¬ (a : Int) < 2147483647 := by omega
            clear hlt2 hn ha
            generalize (a : Int) = z at hc hlt3
            have hw3 : IntKind.u64.wrap ((y : Int) - 1) = ((y - 1 : Nat) : Int) := by rw [IntKind.wrap_u64]; have := L.lt; omega
            have hw4 := bits_and_u64_nat y (y - 1) L.lt (by have := L.lt; omega)
            have hlt4 : y &&& (y - 1) < y := Nat.lt_of_le_of_lt Nat.and_le_right (by omega)
            go_wp2_with (go_at_call 74; refine hz.mono ?_; rintro e w' ⟨rfl, hw⟩; subst w')
            go_roundw
            case rel => exact ⟨y &&& (y - 1), by trivial, by trivial, by trivial, L'⟩
            case measure =>
              simp [intOf]
              omega
    · obtain rfl : k = 64 := by omega
      go_wp2_with fail
      try rw [Exit.noGoto_ret]
      go_ret
      refine ⟨?_, rfl⟩
      have hall : ∀ i, okB ag tk i = false := fun i => by
        by_cases h1 : i < 64 * 64
        · exact hno i h1
        · cases ho : okB ag tk i
          · rfl
          · have := okB_lt ho
            have := hm.le
            omega
      unfold leastI
      rw [leastO_none hall]
      rfl
end

end Go.Proofs.YtjgclehghnmhnaaDoor
