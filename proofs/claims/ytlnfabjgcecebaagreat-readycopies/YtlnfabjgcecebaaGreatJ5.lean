/- Plain facts for the reference's Times: digits that are made, and written one by one. -/
/- The contract of the reference's Times. -/
/- Contracts of the reference's Add, Sub, Mul, Cross, Near, Clamp and Gcd. -/
/- Contracts of the reference's Gcd and Near. -/
/- The contract of the reference's Near. -/
import Derived.Test.YtlnfabjgcecebaaGreatJ4
import Derived.Deep.OwnRows
import Derived.Deep.CutRange
namespace Go.Proofs.YtlnfabjgcecebaaGreat.Big
open Go.RowKit

theorem get_set {ds : List Int} {p m : Nat} {v : Int} (hp : p < ds.length) : (ds.set p v).getD m 0 = if m = p then v else ds.getD m 0 := by
  by_cases h : m = p
  · subst h; simp [hp]
  · rw [if_neg h]
    simp only [List.getD_eq_getElem?_getD, List.getElem?_set_ne (Ne.symm h)]
theorem val_set : ∀ (ds : List Int) (p : Nat) (v : Int), p < ds.length → val (ds.set p v) = val ds + pw p * (v - ds.getD p 0)
  | x :: r, 0, v, _ => by
    show v + 65536 * val r = x + 65536 * val r + 1 * (v - x)
    omega
  | x :: r, p + 1, v, h => by
    have ih := val_set r p v (by simp at h; omega)
    show x + 65536 * val (r.set p v) = x + 65536 * val r + pw (p + 1) * (v - r.getD p 0)
    rw [ih, pw_succ, Int.mul_add, Int.mul_comm (pw p) 65536, Int.mul_assoc]
    omega
theorem dig_set {ds : List Int} {p : Nat} {v : Int} (h : Dig ds) (h0 : 0 ≤ v) (h1 : v < 65536) : Dig (ds.set p v) := by
  intro d hd
  rcases List.mem_or_eq_of_mem_set hd with hd | hd
  · exact h d hd
  · subst hd; exact ⟨h0, h1⟩
theorem val_zeros (n : Nat) : val (List.replicate n 0) = 0 := by
  induction n with
  | zero => rfl
  | succ n ih => show 0 + 65536 * val (List.replicate n 0) = 0; rw [ih]; rfl
theorem dig_zeros (n : Nat) : Dig (List.replicate n 0) := by
  intro d hd
  rw [List.eq_of_mem_replicate hd]; omega

/-- One step of the inner loop. -/
theorem mul_step {O c o x y E T P : Int} (h : O + P * (c + x * (y + 65536 * E)) = T) : O + P * ((c + (o + x * y)) % 65536 - o) + P * 65536 * ((c + (o + x * y)) / 65536 + x * E) = T := by
  rw [← h]
  have e : c + x * (y + 65536 * E) = (c + (o + x * y)) % 65536 - o + 65536 * ((c + (o + x * y)) / 65536 + x * E) := by
    rw [Int.mul_add, ← Int.mul_assoc, Int.mul_comm x 65536, Int.mul_assoc]
    generalize x * y = p
    generalize x * E = q
    omega
  rw [e]
  generalize (c + (o + x * y)) % 65536 - o = d
  generalize (c + (o + x * y)) / 65536 + x * E = q
  rw [Int.mul_add, Int.mul_assoc]
  omega
theorem inner_next {o2 es : List Int} {k p : Nat} {c x o y T : Int} (hl : k + p < o2.length) (ho : o2.getD (k + p) 0 = o) (hy : es.getD p 0 = y) (h : val o2 + pw (k + p) * (c + x * val (es.drop p)) = T) :
    val (o2.set (k + p) ((c + (o + x * y)) % 65536)) + pw (k + (p + 1)) * ((c + (o + x * y)) / 65536 + x * val (es.drop (p + 1))) = T := by
  rw [val_set _ _ _ hl, ho, show k + (p + 1) = k + p + 1 from rfl, pw_succ]
  rw [val_drop es p, hy] at h
  exact mul_step h
/-- Where there is a carry there is a place for it. -/
theorem carry_place {out : List Int} {c S T : Int} {q n : Nat} (hd : Dig out) (hc : 0 < c) (hS : 0 ≤ S) (h : val out + pw q * (c + S) = T) (hT : T < pw n) : q < n := by
  have h0 := val_nonneg hd
  have hp := pw_pos q
  have h1 : pw q * 1 ≤ pw q * (c + S) := Int.mul_le_mul_of_nonneg_left (by omega) (by omega)
  have h2 : ¬ n ≤ q := fun hc => by have := pw_le hc; omega
  omega
theorem row_total {ds es : List Int} {i : Nat} (hd : Dig ds) (he : Dig es) (hi : i < ds.length) : val (ds.take (i + 1)) * val es < pw (ds.length + es.length) := by
  have h1 := val_lt (dig_take (i + 1) hd)
  have h2 := val_lt he
  have h3 := val_nonneg he
  have h4 := val_nonneg (dig_take (i + 1) hd)
  rw [List.length_take, Nat.min_eq_left (by omega)] at h1
  have h5 := pw_le (show i + 1 ≤ ds.length by omega)
  rw [pw_add]
  have h6 : val (ds.take (i + 1)) * val es ≤ val (ds.take (i + 1)) * pw es.length := Int.mul_le_mul_of_nonneg_left (by omega) h4
  have h7 : val (ds.take (i + 1)) * pw es.length < pw ds.length * pw es.length := Int.mul_lt_mul_of_pos_right (by omega) (pw_pos _)
  omega
theorem row_next {ds : List Int} {i : Nat} {E : Int} (hi : i < ds.length) : val (ds.take i) * E + pw i * (ds.getD i 0 * E) = val (ds.take (i + 1)) * E := by
  rw [List.take_succ_eq_append_getElem hi, val_snoc, ← get_in hi, List.length_take, Nat.min_eq_left (by omega), Int.add_mul, Int.mul_assoc]

/-- The digits that Times writes: n cells of the block g, and nothing else has turned. -/
def TW (W2 wr : World) (g n : Nat) (out : List Int) : Prop :=
  Below W2.heap.size W2 wr ∧ g < wr.heap.size ∧ out.length = n ∧ Dig out ∧ (∀ m, m < n → wr.cell? ⟨g, m, none⟩ = some (.int .u32 (out.getD m 0))) ∧ (∀ m, m < n → wr.frozen? ⟨g, m, none⟩ = false)

theorem TW.set {W2 wr : World} {g n p : Nat} {out : List Int} {v : Int} (h : TW W2 wr g n out) (hg : W2.heap.size ≤ g) (hp : p < n) (h0 : 0 ≤ v) (h1 : v < 65536) : TW W2 (wr.setCell ⟨g, p, none⟩ (.int .u32 v)) g n (out.set p v) := by
  obtain ⟨a, b, c, d, e, f⟩ := h
  refine ⟨a.setCell hg _, by simpa [World.setCell] using b, by rw [List.length_set]; exact c, dig_set d h0 h1, fun m hm => ?_, fun m hm => ?_⟩
  · rw [get_set (by omega)]
    by_cases hmp : m = p
    · subst hmp
      rw [if_pos rfl]
      exact World.cell?_setCell_same _ _ _ (e m hm)
    · rw [if_neg hmp, World.cell?_setCell_other _ _ _ _ (fun h => hmp (congrArg Addr.off h).symm)]
      exact e m hm
  · rw [← f m hm]; simp
theorem TW.row {W2 wr : World} {g n : Nat} {out : List Int} (h : TW W2 wr g n out) (hn : n ≤ 3000) : Row wr (.slice (some ⟨g, 0, none⟩) n n) out := by
  obtain ⟨a, b, c, d, e, f⟩ := h
  exact ⟨some ⟨g, 0, none⟩, n, by rw [c], by omega, by unfold maxLen; omega, fun h => (by cases h), fun i hi => ⟨g, 0, rfl, b, by rw [Nat.zero_add]; exact e i (by omega)⟩⟩
theorem TW.new (W2 : World) (n : Nat) : TW W2 (W2.alloc (.cells (madeCells #[.int .u32 0] n) 102)) W2.heap.size n (List.replicate n 0) := by
  refine ⟨below_alloc _ _, by simp, by simp, dig_zeros n, fun m hm => ?_, fun m hm => by simp [go_sem]⟩
  rw [World.cell?_alloc_at _ _ _ _ rfl, ← Array.getElem?_toList, toList_madeCells_one, List.getElem?_replicate, if_pos hm]
  simp [hm]
end Go.Proofs.YtlnfabjgcecebaaGreat.Big
namespace Go.Proofs.YtlnfabjgcecebaaGreat.Big
open Go.RowKit

end Go.Proofs.YtlnfabjgcecebaaGreat.Big
namespace Go.Proofs.YtlnfabjgcecebaaGreat.Big
open Go.RowKit

theorem big_int {a : Int} (ha0 : -9223372036854775808 ≤ a) (ha1 : a ≤ 9223372036854775807) : absI a < pw 1000 := by
  have h1 := abs_bd ha0 ha1
  have h2 := pw_le (show 4 ≤ 1000 by omega)
  rw [pw4] at h2
  omega
theorem pw9 : pw 9 = 22300745198530623141535718272648361505980416 := rfl
theorem big_of {V : Int} (h0 : -22300745198530623141535718272648361505980416 < V) (h1 : V < 22300745198530623141535718272648361505980416) : absI V < pw 1000 := by
  have h2 := pw_le (show 9 ≤ 1000 by omega)
  rw [pw9] at h2
  unfold absI; split <;> omega

set_option maxHeartbeats 400000 in
theorem radd_any (a b : Int) (w : World) (ha0 : -9223372036854775808 ≤ a) (ha1 : a ≤ 9223372036854775807) (hb0 : -9223372036854775808 ≤ b) (hb1 : b ≤ 9223372036854775807) :
    Calls Tryz.prog 93 #[.int .i64 a, .int .i64 b] w fun e w' => e = .returned (.tuple #[.int .i64 (toldI (a + b)), .bool (fitsB (a + b))]) ∧ Below w.heap.size w w' := by
  go_enter Tryz.func93, Tryz.ntmps93
  go_wp2_with fail
  refine (of_any a _ ha0 ha1).mono ?_
  rintro e w1 ⟨x1, rfl, hx1, b1⟩
  go_wp2_with fail
  refine (of_any b _ hb0 hb1).mono ?_
  rintro e w2 ⟨x2, rfl, hx2, b2⟩
  have k2 := below2 b1 b1.size b2
  go_wp2_with fail
  refine (wplus_any x1 x2 a b _ (hx1.below b2) hx2 (big_int ha0 ha1) (big_int hb0 hb1)).mono ?_
  rintro e w3 ⟨x3, rfl, hx3, b3⟩
  have k3 := below2 k2 k2.size b3
  go_wp2_with fail
  refine (told_any x3 (a + b) _ hx3).mono ?_
  rintro e w4 ⟨rfl, b4⟩
  have k4 := below2 k3 k3.size b4
  go_wp2_with fail
  go_ret2
  exact ⟨rfl, k4⟩

set_option maxHeartbeats 400000 in
theorem rsub_any (a b : Int) (w : World) (ha0 : -9223372036854775808 ≤ a) (ha1 : a ≤ 9223372036854775807) (hb0 : -9223372036854775808 ≤ b) (hb1 : b ≤ 9223372036854775807) :
    Calls Tryz.prog 60 #[.int .i64 a, .int .i64 b] w fun e w' => e = .returned (.tuple #[.int .i64 (toldI (a - b)), .bool (fitsB (a - b))]) ∧ Below w.heap.size w w' := by
  go_enter Tryz.func60, Tryz.ntmps60
  go_wp2_with fail
  refine (of_any a _ ha0 ha1).mono ?_
  rintro e w1 ⟨x1, rfl, hx1, b1⟩
  go_wp2_with fail
  refine (of_any b _ hb0 hb1).mono ?_
  rintro e w2 ⟨x2, rfl, hx2, b2⟩
  have k2 := below2 b1 b1.size b2
  go_wp2_with fail
  refine (wminus_any x2 b _ hx2).mono ?_
  rintro e w3 ⟨x3, rfl, hx3, b3⟩
  have k3 := below2 k2 k2.size b3
  go_wp2_with fail
  refine (wplus_any x1 x3 a (-b) _ ((hx1.below b2).below b3) hx3 (big_int ha0 ha1) (by rw [pw_abs_neg]; exact big_int hb0 hb1)).mono ?_
  rw [show a + -b = a - b by omega]
  rintro e w4 ⟨x4, rfl, hx4, b4⟩
  have k4 := below2 k3 k3.size b4
  go_wp2_with fail
  refine (told_any x4 (a - b) _ hx4).mono ?_
  rintro e w5 ⟨rfl, b5⟩
  have k5 := below2 k4 k4.size b5
  go_wp2_with fail
  go_ret2
  exact ⟨rfl, k5⟩

theorem rclamp_any (x l m : Int) (w : World) :
    Calls Tryz.prog 94 #[.int .i64 x, .int .i64 l, .int .i64 m] w fun e w' => e = .returned (.int .i64 (clampI x l m)) ∧ w' = w := by
  by_cases h1 : m < x
  · by_cases h2 : m < l
    · rw [show clampI x l m = l by unfold clampI; rw [if_neg (by omega), if_neg (by omega)]]
      go_enter Tryz.func94, Tryz.ntmps94
      go_wp2
      go_ret
      exact ⟨rfl, rfl⟩
    · rw [show clampI x l m = m by unfold clampI; rw [if_neg (by omega)]; split <;> omega]
      have h2' : decide (m < l) = false := by simpa using h2
      go_enter Tryz.func94, Tryz.ntmps94
      go_wp2
      go_ret
      exact ⟨rfl, rfl⟩
  · have h1' : decide (m < x) = false := by simpa using h1
    by_cases h2 : x < l
    · rw [show clampI x l m = l by unfold clampI; split <;> split <;> omega]
      clear h1
      go_enter Tryz.func94, Tryz.ntmps94
      go_wp2
      go_ret
      exact ⟨rfl, rfl⟩
    · rw [show clampI x l m = x by unfold clampI; split <;> split <;> omega]
      have h2' : decide (x < l) = false := by simpa using h2
      clear h1 h2
      go_enter Tryz.func94, Tryz.ntmps94
      go_wp2
      go_ret
      exact ⟨rfl, rfl⟩
end Go.Proofs.YtlnfabjgcecebaaGreat.Big
namespace Go.Proofs.YtlnfabjgcecebaaGreat.Big
open Go.RowKit

/-- From numbers not below 0 on: the loop of the reference's Gcd. -/
theorem gcd_zero_right' {p : Int} (h : 0 ≤ p) : ((Int.gcd p 0 : Nat) : Int) = p := by simp; omega

end Go.Proofs.YtlnfabjgcecebaaGreat.Big
namespace Go.Proofs.YtlnfabjgcecebaaGreat.Big
open Go.RowKit

theorem ns_step {w W w1 : World} {A B n8 c8 m11 c11 : Nat} {o8 o11 : Option Addr} {n11 : Bool} {ds8 : List Int} {E : Int} (h : W.cell? ⟨A, 1, none⟩ = some (.slice o8 n8 c8) ∧ W.cell? ⟨B, 0, none⟩ = some (.bool n11) ∧ W.cell? ⟨B, 1, none⟩ = some (.slice o11 m11 c11) ∧ A < W.heap.size ∧ B < W.heap.size ∧ Row W (.slice o8 n8 c8) ds8 ∧ Wd W (.agg #[.bool n11, .slice o11 m11 c11]) E ∧ Below w.heap.size w W ∧ w.heap.size ≤ W.heap.size) (hb : Below W.heap.size W w1) : w1.cell? ⟨A, 1, none⟩ = some (.slice o8 n8 c8) ∧ w1.cell? ⟨B, 0, none⟩ = some (.bool n11) ∧ w1.cell? ⟨B, 1, none⟩ = some (.slice o11 m11 c11) ∧ A < w1.heap.size ∧ B < w1.heap.size ∧ Row w1 (.slice o8 n8 c8) ds8 ∧ Wd w1 (.agg #[.bool n11, .slice o11 m11 c11]) E ∧ Below w.heap.size w w1 ∧ w.heap.size ≤ w1.heap.size := by
  obtain ⟨h1, h2, h3, l1, l2, r, wd, k, m⟩ := h
  have hs := hb.size
  exact ⟨keep hb l1 h1, keep hb l2 h2, keep hb l2 h3, by omega, by omega, r.below hb, wd.below hb, below2 k m hb, by omega⟩
theorem ns_drew {w W : World} {A B n8 c8 m11 c11 : Nat} {o8 o11 : Option Addr} {n11 : Bool} {ds8 : List Int} {E : Int} (h : W.cell? ⟨A, 1, none⟩ = some (.slice o8 n8 c8) ∧ W.cell? ⟨B, 0, none⟩ = some (.bool n11) ∧ W.cell? ⟨B, 1, none⟩ = some (.slice o11 m11 c11) ∧ A < W.heap.size ∧ B < W.heap.size ∧ Row W (.slice o8 n8 c8) ds8 ∧ Wd W (.agg #[.bool n11, .slice o11 m11 c11]) E ∧ Below w.heap.size w W ∧ w.heap.size ≤ W.heap.size) : W.drew.cell? ⟨A, 1, none⟩ = some (.slice o8 n8 c8) ∧ W.drew.cell? ⟨B, 0, none⟩ = some (.bool n11) ∧ W.drew.cell? ⟨B, 1, none⟩ = some (.slice o11 m11 c11) ∧ A < W.drew.heap.size ∧ B < W.drew.heap.size ∧ Row W.drew (.slice o8 n8 c8) ds8 ∧ Wd W.drew (.agg #[.bool n11, .slice o11 m11 c11]) E ∧ Below w.heap.size w W.drew ∧ w.heap.size ≤ W.drew.heap.size := by
  obtain ⟨h1, h2, h3, l1, l2, r, wd, k, m⟩ := h
  exact ⟨h1, h2, h3, l1, l2, r.drew, wd.below ((Below.refl _ _).drew), k.drew, m⟩
theorem ns_row {w W : World} {A B n8 c8 m11 c11 : Nat} {o8 o11 : Option Addr} {n11 : Bool} {ds8 : List Int} {E : Int} (h : W.cell? ⟨A, 1, none⟩ = some (.slice o8 n8 c8) ∧ W.cell? ⟨B, 0, none⟩ = some (.bool n11) ∧ W.cell? ⟨B, 1, none⟩ = some (.slice o11 m11 c11) ∧ A < W.heap.size ∧ B < W.heap.size ∧ Row W (.slice o8 n8 c8) ds8 ∧ Wd W (.agg #[.bool n11, .slice o11 m11 c11]) E ∧ Below w.heap.size w W ∧ w.heap.size ≤ W.heap.size) : Row W (.slice o8 n8 c8) ds8 := h.2.2.2.2.2.1
theorem ns_wd {w W : World} {A B n8 c8 m11 c11 : Nat} {o8 o11 : Option Addr} {n11 : Bool} {ds8 : List Int} {E : Int} (h : W.cell? ⟨A, 1, none⟩ = some (.slice o8 n8 c8) ∧ W.cell? ⟨B, 0, none⟩ = some (.bool n11) ∧ W.cell? ⟨B, 1, none⟩ = some (.slice o11 m11 c11) ∧ A < W.heap.size ∧ B < W.heap.size ∧ Row W (.slice o8 n8 c8) ds8 ∧ Wd W (.agg #[.bool n11, .slice o11 m11 c11]) E ∧ Below w.heap.size w W ∧ w.heap.size ≤ W.heap.size) : Wd W (.agg #[.bool n11, .slice o11 m11 c11]) E := h.2.2.2.2.2.2.1

end Go.Proofs.YtlnfabjgcecebaaGreat.Big
