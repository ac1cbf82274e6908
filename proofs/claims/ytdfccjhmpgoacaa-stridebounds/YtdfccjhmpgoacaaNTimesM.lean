/- Plain facts for the reference's Times: digits that are made, and written one by one. -/
import Derived.Test.YtdfccjhmpgoacaaNRefC
import Derived.Deep.OwnRows
namespace Go.Proofs.Ytdfccjhmpgoacaa.Big
open Go.RowKit

theorem get_set {ds : List Int} {p m : Nat} {v : Int} (hp : p < ds.length) : (ds.set p v).getD m 0 = if m = p then v else ds.getD m 0 := by
  by_cases h : m = p
  · subst h; simp [hp]
  · rw [if_neg h]
    simp only [List.getD_eq_getElem?_getD, List.getElem?_set_ne (Ne.symm h)]
theorem val_set : ∀ (ds : List Int) (p : Nat) (v : Int), p < ds.length → val (ds.set p v) = val ds + pw p * (v - ds.getD p 0)
  | x :: r, 0, v, _ => by
    show v + 65536 * val r = x + 65536 * val r + 1 * (v - x)
    omega
  | x :: r, p + 1, v, h => by
    have ih := val_set r p v (by simp at h; omega)
    show x + 65536 * val (r.set p v) = x + 65536 * val r + pw (p + 1) * (v - r.getD p 0)
    rw [ih, pw_succ, Int.mul_add, Int.mul_comm (pw p) 65536, Int.mul_assoc]
    omega
theorem dig_set {ds : List Int} {p : Nat} {v : Int} (h : Dig ds) (h0 : 0 ≤ v) (h1 : v < 65536) : Dig (ds.set p v) := by
  intro d hd
  rcases List.mem_or_eq_of_mem_set hd with hd | hd
  · exact h d hd
  · subst hd; exact ⟨h0, h1⟩
theorem val_zeros (n : Nat) : val (List.replicate n 0) = 0 := by
  induction n with
  | zero => rfl
  | succ n ih => show 0 + 65536 * val (List.replicate n 0) = 0; rw [ih]; rfl
theorem dig_zeros (n : Nat) : Dig (List.replicate n 0) := by
  intro d hd
  rw [List.eq_of_mem_replicate hd]; omega

/-- One step of the inner loop. -/
theorem mul_step {O c o x y E T P : Int} (h : O + P * (c + x * (y + 65536 * E)) = T) : O + P * ((c + (o + x * y)) % 65536 - o) + P * 65536 * ((c + (o + x * y)) / 65536 + x * E) = T := by
  rw [← h]
  have e : c + x * (y + 65536 * E) = (c + (o + x * y)) % 65536 - o + 65536 * ((c + (o + x * y)) / 65536 + x * E) := by
    rw [Int.mul_add, ← Int.mul_assoc, Int.mul_comm x 65536, Int.mul_assoc]
    generalize x * y = p
    generalize x * E = q
    omega
  rw [e]
  generalize (c + (o + x * y)) % 65536 - o = d
  generalize (c + (o + x * y)) / 65536 + x * E = q
  rw [Int.mul_add, Int.mul_assoc]
  omega
theorem inner_next {o2 es : List Int} {k p : Nat} {c x o y T : Int} (hl : k + p < o2.length) (ho : o2.getD (k + p) 0 = o) (hy : es.getD p 0 = y) (h : val o2 + pw (k + p) * (c + x * val (es.drop p)) = T) :
    val (o2.set (k + p) ((c + (o + x * y)) % 65536)) + pw (k + (p + 1)) * ((c + (o + x * y)) / 65536 + x * val (es.drop (p + 1))) = T := by
  rw [val_set _ _ _ hl, ho, show k + (p + 1) = k + p + 1 from rfl, pw_succ]
  rw [val_drop es p, hy] at h
  exact mul_step h
/-- Where there is a carry there is a place for it. -/
theorem carry_place {out : List Int} {c S T : Int} {q n : Nat} (hd : Dig out) (hc : 0 < c) (hS : 0 ≤ S) (h : val out + pw q * (c + S) = T) (hT : T < pw n) : q < n := by
  have h0 := val_nonneg hd
  have hp := pw_pos q
  have h1 : pw q * 1 ≤ pw q * (c + S) := Int.mul_le_mul_of_nonneg_left (by omega) (by omega)
  have h2 : ¬ n ≤ q := fun hc => by have := pw_le hc; omega
  omega
theorem row_total {ds es : List Int} {i : Nat} (hd : Dig ds) (he : Dig es) (hi : i < ds.length) : val (ds.take (i + 1)) * val es < pw (ds.length + es.length) := by
  have h1 := val_lt (dig_take (i + 1) hd)
  have h2 := val_lt he
  have h3 := val_nonneg he
  have h4 := val_nonneg (dig_take (i + 1) hd)
  rw [List.length_take, Nat.min_eq_left (by omega)] at h1
  have h5 := pw_le (show i + 1 ≤ ds.length by omega)
  rw [pw_add]
  have h6 : val (ds.take (i + 1)) * val es ≤ val (ds.take (i + 1)) * pw es.length := Int.mul_le_mul_of_nonneg_left (by omega) h4
  have h7 : val (ds.take (i + 1)) * pw es.length < pw ds.length * pw es.length := Int.mul_lt_mul_of_pos_right (by omega) (pw_pos _)
  omega
theorem row_next {ds : List Int} {i : Nat} {E : Int} (hi : i < ds.length) : val (ds.take i) * E + pw i * (ds.getD i 0 * E) = val (ds.take (i + 1)) * E := by
  rw [List.take_succ_eq_append_getElem hi, val_snoc, ← get_in hi, List.length_take, Nat.min_eq_left (by omega), Int.add_mul, Int.mul_assoc]

/-- The digits that Times writes: n cells of the block g, and nothing else has turned. -/
def TW (W2 wr : World) (g n : Nat) (out : List Int) : Prop :=
  Below W2.heap.size W2 wr ∧ g < wr.heap.size ∧ out.length = n ∧ Dig out ∧ (∀ m, m < n → wr.cell? ⟨g, m, none⟩ = some (.int .u32 (out.getD m 0))) ∧ (∀ m, m < n → wr.frozen? ⟨g, m, none⟩ = false)

theorem TW.set {W2 wr : World} {g n p : Nat} {out : List Int} {v : Int} (h : TW W2 wr g n out) (hg : W2.heap.size ≤ g) (hp : p < n) (h0 : 0 ≤ v) (h1 : v < 65536) : TW W2 (wr.setCell ⟨g, p, none⟩ (.int .u32 v)) g n (out.set p v) := by
  obtain ⟨a, b, c, d, e, f⟩ := h
  refine ⟨a.setCell hg _, by simpa [World.setCell] using b, by rw [List.length_set]; exact c, dig_set d h0 h1, fun m hm => ?_, fun m hm => ?_⟩
  · rw [get_set (by omega)]
    by_cases hmp : m = p
    · subst hmp
      rw [if_pos rfl]
      exact World.cell?_setCell_same _ _ _ (e m hm)
    · rw [if_neg hmp, World.cell?_setCell_other _ _ _ _ (fun h => hmp (congrArg Addr.off h).symm)]
      exact e m hm
  · rw [← f m hm]; simp
theorem TW.row {W2 wr : World} {g n : Nat} {out : List Int} (h : TW W2 wr g n out) (hn : n ≤ 3000) : Row wr (.slice (some ⟨g, 0, none⟩) n n) out := by
  obtain ⟨a, b, c, d, e, f⟩ := h
  exact ⟨some ⟨g, 0, none⟩, n, by rw [c], by omega, by unfold maxLen; omega, fun h => (by cases h), fun i hi => ⟨g, 0, rfl, b, by rw [Nat.zero_add]; exact e i (by omega)⟩⟩
theorem TW.new (W2 : World) (n : Nat) : TW W2 (W2.alloc (.cells (madeCells #[.int .u32 0] n) 61)) W2.heap.size n (List.replicate n 0) := by
  refine ⟨below_alloc _ _, by simp, by simp, dig_zeros n, fun m hm => ?_, fun m hm => by simp [go_sem]⟩
  rw [World.cell?_alloc_at _ _ _ _ rfl, ← Array.getElem?_toList, toList_madeCells_one, List.getElem?_replicate, if_pos hm]
  simp [hm]
end Go.Proofs.Ytdfccjhmpgoacaa.Big
