/- How digits lie in memory: a slice of uint32; numbers of any size as the reference keeps them. -/
/- The contract of the reference's Of: an int as a number of any size. -/
/- The contract of the reference's trim. -/
import Derived.Test.YtlnfabjgcecebaaGreatJ1
import Derived.Test.YtlnfabjgcecebaaGreatNDigM
namespace Go.Proofs.YtlnfabjgcecebaaGreat.Big
open Go.RowKit

theorem infoU32 : (Tryz.prog.info? 102).map (fun i => (i.zero, i.size, i.bytes)) = some (some (.int .u32 0), 1, 4) := by kernel_rfl

/-- The slice v holds just these digits. -/
def Row (w : World) (v : Value) (ds : List Int) : Prop :=
  ∃ (oa : Option Addr) (cap : Nat), v = .slice oa ds.length cap ∧ ds.length ≤ cap ∧ cap ≤ maxLen ∧ (oa = none → cap = 0) ∧
    ∀ i, i < ds.length → ∃ b off, oa = some ⟨b, off, none⟩ ∧ b < w.heap.size ∧ w.cell? ⟨b, off + i, none⟩ = some (.int .u32 (ds.getD i 0))

/-- The struct v is the number V: its sign, and its digits without noughts at the end. -/
def Wd (w : World) (v : Value) (V : Int) : Prop :=
  ∃ (s : Value) (ds : List Int), v = .agg #[.bool (decide (V < 0)), s] ∧ Row w s ds ∧ Dig ds ∧ Canon ds ∧ val ds = absI V

theorem Row.below {w w' : World} {v : Value} {ds : List Int} (h : Row w v ds) (hb : Below w.heap.size w w') : Row w' v ds := by
  obtain ⟨oa, cap, h1, h2, h3, h4, h5⟩ := h
  refine ⟨oa, cap, h1, h2, h3, h4, fun i hi => ?_⟩
  obtain ⟨b, off, e, hlt, hc⟩ := h5 i hi
  exact ⟨b, off, e, Nat.lt_of_lt_of_le hlt hb.size, keep hb hlt hc⟩
theorem Wd.below {w w' : World} {v : Value} {V : Int} (h : Wd w v V) (hb : Below w.heap.size w w') : Wd w' v V := by
  obtain ⟨s, ds, h1, h2, h3, h4, h5⟩ := h
  exact ⟨s, ds, h1, h2.below hb, h3, h4, h5⟩
theorem below_alloc (w : World) (o : Obj) : Below w.heap.size w (w.alloc o) := (Below.refl _ _).alloc (Nat.le_refl _) _
theorem Row.alloc {w : World} {v : Value} {ds : List Int} (h : Row w v ds) (o : Obj) : Row (w.alloc o) v ds := h.below (below_alloc w o)
theorem Row.drew {w : World} {v : Value} {ds : List Int} (h : Row w v ds) : Row w.drew v ds := h.below ((Below.refl _ _).drew)

/-- What the call has appended is such a slice. -/
theorem row_of_own {w : World} {base : Nat} {v : Value} {ds : List Int} (h : w.ownsRow base 102 1 v ds.length (ds.map (Value.int .u32))) : Row w v ds := by
  obtain ⟨hl, h⟩ := h
  rcases h with ⟨h1, h2⟩ | ⟨g, cap, cur, h1, h2, h3, h4, h5, h6, h7⟩
  · refine ⟨none, 0, by rw [h2]; exact h1, by omega, by unfold maxLen; omega, fun _ => rfl, fun i hi => by omega⟩
  · refine ⟨some ⟨g, 0, none⟩, cap, h1, h4, h5, fun e => (by cases e), fun i hi => ⟨g, 0, rfl, ?_, ?_⟩⟩
    · exact (Array.getElem?_eq_some_iff.1 h3).1
    · have hi2 : i < cur.size := by omega
      have e : (cur.toList.take (ds.length * 1))[i]? = (ds.map (Value.int .u32))[i]? := by rw [h7]
      rw [List.getElem?_take, if_pos (by omega), List.getElem?_map, List.getElem?_eq_getElem hi] at e
      simp only [Option.map_some] at e
      simp only [World.cell?, h3, Nat.zero_add]
      rw [get_in hi]
      simpa using e
theorem own_block {w : World} {base n : Nat} {v : Value} {xs : List Value} {e : TypeId} {size : Nat} (h : w.ownsRow base e size v n xs) : ∀ k, v.ownBlock = some k → base ≤ k := by
  obtain ⟨_, h⟩ := h
  intro k hk
  rcases h with ⟨h1, _⟩ | ⟨g, cap, cur, h1, h2, _⟩
  · subst h1; cases hk
  · subst h1
    simp only [Value.ownBlock, Option.some.injEq] at hk
    omega

/-- Behind an append of one digit: what is owned, and that nothing else has turned. -/
theorem own_step {W0 w w1 : World} {base : Nat} {v v' : Value} {out : List Int} {d : Int} {ob : Obj} (hb : Below base W0 w) (hB : base ≤ w.heap.size)
    (h : w.ownsRow base 102 1 v out.length (out.map (Value.int .u32))) (h' : w1.ownsRow base 102 1 v' (out.length + 1) (out.map (Value.int .u32) ++ [.int .u32 d])) (hg : (w.alloc ob).grownBy w1 v.ownBlock) :
    w1.ownsRow base 102 1 v' (out ++ [d]).length ((out ++ [d]).map (Value.int .u32)) ∧ Below base W0 w1 ∧ base ≤ w1.heap.size := by
  have k1 : Below base W0 (w.alloc ob) := hb.alloc hB ob
  have k2 : Below base W0 w1 := k1.grown hg (by simp; omega) (own_block h)
  have hs := hg.size
  refine ⟨?_, k2, by simp at hs; omega⟩
  simpa using h'

/-- A struct's own cells, written, leave digits that lie elsewhere alone. -/
theorem Row.set2 {W : World} {B : Nat} {x : Bool} {oa : Option Addr} {n c : Nat} {u v s : Value} {ds : List Int} (h : Row W s ds) (h0 : W.cell? ⟨B, 0, none⟩ = some (.bool x)) (h1 : W.cell? ⟨B, 1, none⟩ = some (.slice oa n c)) :
    Row ((W.setCell ⟨B, 0, none⟩ u).setCell ⟨B, 1, none⟩ v) s ds := by
  obtain ⟨ob, cap, g1, g2, g3, g4, g5⟩ := h
  refine ⟨ob, cap, g1, g2, g3, g4, fun i hi => ?_⟩
  obtain ⟨b, off, e, hlt, hc⟩ := g5 i hi
  refine ⟨b, off, e, by simpa [World.setCell] using hlt, ?_⟩
  have n0 : (⟨B, 0, none⟩ : Addr) ≠ ⟨b, off + i, none⟩ := fun e => by rw [← e, h0] at hc; cases hc
  have n1 : (⟨B, 1, none⟩ : Addr) ≠ ⟨b, off + i, none⟩ := fun e => by rw [← e, h1] at hc; cases hc
  rw [World.cell?_setCell_other _ _ _ _ n1, World.cell?_setCell_other _ _ _ _ n0]
  exact hc

theorem land16_u64 (r : Int) (h0 : 0 ≤ r) (h1 : r < 18446744073709551616) : bits .and .u64 r 65535 = r % 65536 := by go_bits2
end Go.Proofs.YtlnfabjgcecebaaGreat.Big
namespace Go.Proofs.YtlnfabjgcecebaaGreat.Big
open Go.RowKit

theorem canon_nil : Canon [] := fun r d h => by simp at h
theorem canon_snoc {ds : List Int} {d : Int} (h : d ≠ 0) : Canon (ds ++ [d]) := by
  intro r x e
  have := List.append_inj' e rfl
  simp at this
  rw [← this.2]; exact h
theorem of_step {out : List Int} {r A : Int} (h : val out + pw out.length * r = A) : val (out ++ [r % 65536]) + pw (out ++ [r % 65536]).length * (r / 65536) = A := by
  have h2 := sum_step (out := out) (i := out.length) (c := r) (x := 0) (y := 0) (A := 0) (B := 0) (V := A) rfl (by simpa using h)
  simpa using h2
theorem of_short {out : List Int} {r A : Int} (hd : Dig out) (h : val out + pw out.length * r = A) (hr : 0 < r) (hA : A < 18446744073709551616) : out.length < 4 := by
  have h0 := val_nonneg hd
  have hp := pw_pos out.length
  have h1 : pw out.length * 1 ≤ pw out.length * r := Int.mul_le_mul_of_nonneg_left (by omega) (by omega)
  have h2 : ¬ 4 ≤ out.length := fun hc => by have := pw_le hc; have e : pw 4 = 18446744073709551616 := rfl; omega
  omega

set_option maxHeartbeats 1000000 in
theorem of_any (a : Int) (w : World) (ha0 : -9223372036854775808 ≤ a) (ha1 : a ≤ 9223372036854775807) :
    Calls Tryz.prog 84 #[.int .i64 a] w fun e w' => ∃ v, e = .returned v ∧ Wd w' v a ∧ Below w.heap.size w w' := by
  obtain ⟨i0, hi, hz0, hz1, hz2⟩ := info_parts infoU32
  obtain ⟨b0, b1⟩ := abs_bd ha0 ha1
  go_enter Tryz.func84, Tryz.ntmps84
  by_cases hneg : a < 0
  · have hab : IntKind.u64.wrap (-(IntKind.u64.wrap a)) = absI a := by unfold absI; rw [if_pos hneg, IntKind.wrap_u64, IntKind.wrap_u64]; omega
    go_wp2_with fail
    go_loopw [3, 4] (fun u d wr => ∃ (out : List Int) (r : Int), 0 ≤ r ∧ r < 18446744073709551616 ∧ u = .int .u64 r ∧ wr.ownsRow (w.heap.size + 1) 102 1 d out.length (out.map (Value.int .u32)) ∧ Dig out ∧ Hid (val out + pw out.length * r = absI a) ∧ Hid (r = 0 → Canon out) ∧ Below (w.heap.size + 1) (w.alloc (Obj.cells #[Value.bool false, Value.slice none 0 0] 92)) wr ∧ w.heap.size + 1 ≤ wr.heap.size) (fun u _ _ => (intOf u).toNat)
    case atStart => exact ⟨[], absI a, b0, by omega, rfl, World.ownsRow_nil _ _ _ _, dig_nil, (by unfold Hid; show 0 + 1 * absI a = absI a; omega), fun _ => canon_nil, Below.refl _ _, by simp⟩
    case round =>
      obtain ⟨out, r, r0, r1, rfl, hown, hdig, hval, hcan, hbel, hB⟩ := hrel
      by_cases hr : 0 < r
      · have hl := land16_u64 r r0 r1
        have hshort := of_short hdig hval.out hr (by omega)
        go_wp2_with (at_builtin; refine wpList_append_own _ rfl _ _ 90 rfl (w.heap.size + 1) 102 i0 (.int .u32 0) 1 4 Tryz.underlying90 hi hz0 hz1 hz2 rfl (by decide) _ _ _ rfl (hown.alloc _) ⟨wr.heap.size, 0, none⟩ 1 1 [.int .u32 (r % 65536)] rfl rfl ?c1 ?c2 ?c3 ?c4 ?c5 ?_)
        case c1 =>
          intro j u hj
          match j, hj with
          | 0, hj => simp at hj; subst hj; simp [Addr.add]
        case c2 => intro u hu; simp at hu; subst hu; rfl
        case c3 => unfold maxLen; omega
        case c4 => omega
        case c5 => simp; omega
        · intro v' w1 hown' hgrow _
          have R := own_step hbel hB hown hown' hgrow
          clear hown' hgrow hown
          go_wp2
          go_roundw
          case rel => exact ⟨out ++ [r % 65536], r / 65536, by omega, by omega, rfl, R.1, dig_snoc hdig (by omega) (by omega), of_step hval.out, fun h => canon_snoc (by omega), R.2.1, R.2.2⟩
          case measure => simp [intOf]; omega
      · have hz : r = 0 := by omega
        subst hz
        have hk0 : wr.cell? ⟨w.heap.size, 0, none⟩ = some (.bool false) := by rw [hbel.cell (p := ⟨w.heap.size, 0, none⟩) (by simp)]; simp [go_sem]
        have hk1 : wr.cell? ⟨w.heap.size, 1, none⟩ = some (.slice none 0 0) := by rw [hbel.cell (p := ⟨w.heap.size, 1, none⟩) (by simp)]; simp [go_sem]
        have hf0 : wr.frozen? ⟨w.heap.size, 0, none⟩ = false := by rw [hbel.frozen (p := ⟨w.heap.size, 0, none⟩) (by simp)]; simp [go_sem]
        have hf1 : wr.frozen? ⟨w.heap.size, 1, none⟩ = false := by rw [hbel.frozen (p := ⟨w.heap.size, 1, none⟩) (by simp)]; simp [go_sem]
        have hrow := row_of_own hown
        have hrow2 := hrow
        obtain ⟨oa, cap, rfl, _, _, _, _⟩ := hrow2
        clear hown
        go_wp2
        exact bodyPost_ret (v := .agg #[.bool true, .slice oa out.length cap]) (by simp [results, Tryz.results84, go_sem, hk0, hk1]) rfl ⟨_, rfl, ⟨_, out, by simp [hneg], hrow.set2 hk0 hk1, hdig, hcan.out trivial, by have := hval.out; omega⟩, ((((below_alloc w _).trans (hbel.mono (by omega))).setCell (by simp) _).setCell (by simp) _)⟩
  · have hab : absI a = a := by unfold absI; rw [if_neg hneg]
    have hneg' : decide (a < 0) = false := by simpa using hneg
    have hge : 0 ≤ a := by omega
    go_wp2_with fail
    go_loopw [3, 4] (fun u d wr => ∃ (out : List Int) (r : Int), 0 ≤ r ∧ r < 18446744073709551616 ∧ u = .int .u64 r ∧ wr.ownsRow (w.heap.size + 1) 102 1 d out.length (out.map (Value.int .u32)) ∧ Dig out ∧ Hid (val out + pw out.length * r = absI a) ∧ Hid (r = 0 → Canon out) ∧ Below (w.heap.size + 1) (w.alloc (Obj.cells #[Value.bool false, Value.slice none 0 0] 92)) wr ∧ w.heap.size + 1 ≤ wr.heap.size) (fun u _ _ => (intOf u).toNat)
    case atStart => exact ⟨[], absI a, b0, by omega, by rw [hab], World.ownsRow_nil _ _ _ _, dig_nil, (by unfold Hid; show 0 + 1 * absI a = absI a; omega), fun _ => canon_nil, Below.refl _ _, by simp⟩
    case round =>
      obtain ⟨out, r, r0, r1, rfl, hown, hdig, hval, hcan, hbel, hB⟩ := hrel
      by_cases hr : 0 < r
      · have hl := land16_u64 r r0 r1
        have hshort := of_short hdig hval.out hr (by omega)
        go_wp2_with (at_builtin; refine wpList_append_own _ rfl _ _ 90 rfl (w.heap.size + 1) 102 i0 (.int .u32 0) 1 4 Tryz.underlying90 hi hz0 hz1 hz2 rfl (by decide) _ _ _ rfl (hown.alloc _) ⟨wr.heap.size, 0, none⟩ 1 1 [.int .u32 (r % 65536)] rfl rfl ?c1 ?c2 ?c3 ?c4 ?c5 ?_)
        case c1 =>
          intro j u hj
          match j, hj with
          | 0, hj => simp at hj; subst hj; simp [Addr.add]
        case c2 => intro u hu; simp at hu; subst hu; rfl
        case c3 => unfold maxLen; omega
        case c4 => omega
        case c5 => simp; omega
        · intro v' w1 hown' hgrow _
          have R := own_step hbel hB hown hown' hgrow
          clear hown' hgrow hown
          go_wp2
          go_roundw
          case rel => exact ⟨out ++ [r % 65536], r / 65536, by omega, by omega, rfl, R.1, dig_snoc hdig (by omega) (by omega), of_step hval.out, fun h => canon_snoc (by omega), R.2.1, R.2.2⟩
          case measure => simp [intOf]; omega
      · have hz : r = 0 := by omega
        subst hz
        have hk0 : wr.cell? ⟨w.heap.size, 0, none⟩ = some (.bool false) := by rw [hbel.cell (p := ⟨w.heap.size, 0, none⟩) (by simp)]; simp [go_sem]
        have hk1 : wr.cell? ⟨w.heap.size, 1, none⟩ = some (.slice none 0 0) := by rw [hbel.cell (p := ⟨w.heap.size, 1, none⟩) (by simp)]; simp [go_sem]
        have hf0 : wr.frozen? ⟨w.heap.size, 0, none⟩ = false := by rw [hbel.frozen (p := ⟨w.heap.size, 0, none⟩) (by simp)]; simp [go_sem]
        have hf1 : wr.frozen? ⟨w.heap.size, 1, none⟩ = false := by rw [hbel.frozen (p := ⟨w.heap.size, 1, none⟩) (by simp)]; simp [go_sem]
        have hrow := row_of_own hown
        have hrow2 := hrow
        obtain ⟨oa, cap, rfl, _, _, _, _⟩ := hrow2
        clear hown
        go_wp2
        exact bodyPost_ret (v := .agg #[.bool false, .slice oa out.length cap]) (by simp [results, Tryz.results84, go_sem, hk0, hk1]) rfl ⟨_, rfl, ⟨_, out, by rw [hneg'], hrow.set2 hk0 hk1, hdig, hcan.out trivial, by have := hval.out; omega⟩, ((((below_alloc w _).trans (hbel.mono (by omega))).setCell (by simp) _).setCell (by simp) _)⟩
end Go.Proofs.YtlnfabjgcecebaaGreat.Big
namespace Go.Proofs.YtlnfabjgcecebaaGreat.Big
open Go.RowKit

theorem take_zero_digit {ds : List Int} {k : Nat} (h : k < ds.length) (hz : ds.getD k 0 = 0) : val (ds.take (k + 1)) = val (ds.take k) := by
  rw [List.take_succ_eq_append_getElem h, val_snoc, ← get_in h, hz]; omega
theorem canon_take {ds : List Int} {k : Nat} (h : k < ds.length) (hz : ds.getD k 0 ≠ 0) : Canon (ds.take (k + 1)) := by
  rw [List.take_succ_eq_append_getElem h, ← get_in h]; exact canon_snoc hz
theorem canon_pos {ds : List Int} (h : Dig ds) (hc : Canon ds) : (0 < ds.length) ↔ 0 < val ds := by
  constructor
  · intro hl
    have h1 := canon_len h hc (by omega)
    have h2 := pw_pos (ds.length - 1)
    omega
  · intro hv
    match ds, hv with
    | [], hv => simp [val] at hv
    | x :: r, _ => simp
theorem turn_neg {b : Bool} {X : Int} (h : 0 ≤ X) : decide (turnI b X < 0) = (b && decide (0 < X)) := by
  cases b
  · simp [turnI]; omega
  · simp [turnI]
theorem abs_turn {b : Bool} {X : Int} (h : 0 ≤ X) : absI (turnI b X) = X := by
  cases b
  · simp only [turnI, absI]; simp; omega
  · simp only [turnI, absI, if_true]; split <;> omega

/-- A slice's first k places. -/
theorem Row.take {w : World} {oa : Option Addr} {cap k : Nat} {ds : List Int} (h : Row w (.slice oa ds.length cap) ds) (hk : k ≤ ds.length) : Row w (.slice oa k cap) (ds.take k) := by
  obtain ⟨ob, c, h1, h2, h3, h4, h5⟩ := h
  simp only [Value.slice.injEq] at h1
  obtain ⟨rfl, _, rfl⟩ := h1
  have hl : (ds.take k).length = k := by rw [List.length_take]; omega
  refine ⟨oa, cap, by rw [hl], by omega, h3, h4, fun i hi => ?_⟩
  rw [hl] at hi
  obtain ⟨b, off, e, hlt, hc⟩ := h5 i (by omega)
  refine ⟨b, off, e, hlt, ?_⟩
  rw [hc, get_in (by omega), get_in (by rw [hl]; exact hi)]
  simp

theorem trim_fin {w : World} {oa : Option Addr} {cap k : Nat} {ds : List Int} {neg : Bool} (hk : k ≤ ds.length) (hrow : Row w (.slice oa k cap) (ds.take k)) (hd : Dig ds) (hv : val (ds.take k) = val ds) (hc : Canon (ds.take k)) {x : Bool} (hx : x = (neg && decide (0 < k))) :
    Wd w (.agg #[.bool x, .slice oa k cap]) (turnI neg (val ds)) := by
  have hl : (ds.take k).length = k := by rw [List.length_take]; omega
  have hp := canon_pos (dig_take k hd) hc
  rw [hl, hv] at hp
  refine ⟨_, ds.take k, ?_, hrow, dig_take k hd, hc, by rw [hv, abs_turn (val_nonneg hd)]⟩
  rw [turn_neg (val_nonneg hd), hx, decide_eq_decide.2 hp]

set_option maxHeartbeats 1000000 in
theorem trim_any (neg : Bool) (s : Value) (ds : List Int) (w : World) (hr : Row w s ds) (hd : Dig ds) :
    Calls Tryz.prog 96 #[.agg #[.bool neg, s]] w fun e w' => ∃ v, e = .returned v ∧ Wd w' v (turnI neg (val ds)) ∧ Below w.heap.size w w' := by
  have hr0 := hr
  obtain ⟨oa, cap, rfl, hle, hmax, hnil, hcell⟩ := hr0
  unfold maxLen at hmax
  go_enter Tryz.func96, Tryz.ntmps96
  go_wp2_with fail
  go_loop [3] (fun n => ∃ k : Nat, k ≤ ds.length ∧ n = .int .i64 k ∧ Hid (val (ds.take k) = val ds)) (fun n => (intOf n).toNat)
  case atStart => exact ⟨ds.length, Nat.le_refl _, rfl, by unfold Hid; rw [List.take_length]⟩
  case round =>
    obtain ⟨k, hk, rfl, hv⟩ := hrel
    by_cases h0 : 0 < k
    · obtain ⟨m, rfl⟩ : ∃ m, k = m + 1 := ⟨k - 1, by omega⟩
      obtain ⟨b, off, rfl, hlt, hc⟩ := hcell m (by omega)
      obtain ⟨x, hx⟩ : ∃ x, Hid (ds.getD m 0 = x) := ⟨_, rfl⟩
      rw [hx.out] at hc
      clear hcell hnil
      by_cases hz : x = 0
      · subst hz
        go_wp2
        go_round
        case rel => exact ⟨m, by omega, rfl, by unfold Hid; rw [← take_zero_digit (by omega) hx.out]; exact hv.out⟩
        case measure => simp [intOf]
      · have hz' : (x == 0) = false := by simpa using hz
        have hcan : Hid (Canon (ds.take (m + 1))) := canon_take (by omega) (by rw [hx.out]; exact hz)
        clear hz
        have hs1 : (0 : Int) ≤ (m : Int) + 1 := by omega
        have hs2 : (m : Int) + 1 ≤ (cap : Int) := by omega
        cases neg
        · go_wp2
          go_region
          all_goals
            go_wp2
            exact bodyPost_ret (v := .agg #[.bool false, .slice (some ⟨b, off, none⟩) (m + 1) cap]) (by simp [results, Tryz.results96, go_sem]) rfl ⟨_, rfl, trim_fin hk ((((hr.take hk).alloc _).alloc _).drew) hd hv.out hcan.out (by simp), (((below_alloc w _).trans ((below_alloc _ _).mono (by simp))).drew)⟩
        · go_wp2
          go_region
          all_goals
            go_wp2
            exact bodyPost_ret (v := .agg #[.bool true, .slice (some ⟨b, off, none⟩) (m + 1) cap]) (by simp [results, Tryz.results96, go_sem]) rfl ⟨_, rfl, trim_fin hk ((((hr.take hk).alloc _).alloc _).drew) hd hv.out hcan.out (by simp), (((below_alloc w _).trans ((below_alloc _ _).mono (by simp))).drew)⟩
    · have hk0 : k = 0 := by omega
      subst hk0
      have hcan : Canon (ds.take 0) := canon_nil
      clear hcell h0
      match oa, hnil, hr with
      | none, hnil, hr =>
        obtain rfl : cap = 0 := hnil rfl
        have hl0 : ds.length = 0 := by omega
        cases neg
        · go_wp2
          go_region
          all_goals
            go_wp2
            exact bodyPost_ret (v := .agg #[.bool false, .slice none 0 0]) (by simp [results, Tryz.results96, go_sem]) rfl ⟨_, rfl, trim_fin hk ((((hr.take hk).alloc _).alloc _).drew) hd hv.out hcan (by simp), (((below_alloc w _).trans ((below_alloc _ _).mono (by simp))).drew)⟩
        · go_wp2
          go_region
          all_goals
            go_wp2
            exact bodyPost_ret (v := .agg #[.bool false, .slice none 0 0]) (by simp [results, Tryz.results96, go_sem]) rfl ⟨_, rfl, trim_fin hk ((((hr.take hk).alloc _).alloc _).drew) hd hv.out hcan (by simp), (((below_alloc w _).trans ((below_alloc _ _).mono (by simp))).drew)⟩
      | some ad, hnil, hr =>
        have hs2 : (0 : Int) ≤ (cap : Int) := by omega
        cases neg
        · go_wp2
          go_region
          all_goals
            go_wp2
            exact bodyPost_ret (v := .agg #[.bool false, .slice (some ad) 0 cap]) (by simp [results, Tryz.results96, go_sem]) rfl ⟨_, rfl, trim_fin hk ((((hr.take hk).alloc _).alloc _).drew) hd hv.out hcan (by simp), (((below_alloc w _).trans ((below_alloc _ _).mono (by simp))).drew)⟩
        · go_wp2
          go_region
          all_goals
            go_wp2
            exact bodyPost_ret (v := .agg #[.bool false, .slice (some ad) 0 cap]) (by simp [results, Tryz.results96, go_sem]) rfl ⟨_, rfl, trim_fin hk ((((hr.take hk).alloc _).alloc _).drew) hd hv.out hcan (by simp), (((below_alloc w _).trans ((below_alloc _ _).mono (by simp))).drew)⟩
end Go.Proofs.YtlnfabjgcecebaaGreat.Big
