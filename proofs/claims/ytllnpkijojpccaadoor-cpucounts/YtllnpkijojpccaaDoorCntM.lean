/- A loop that counts down, plain. -/
import Derived.Test.YtllnpkijojpccaaDoorCLives
namespace Go.Proofs.YtllnpkijojpccaaDoor
open Go Go.RowKit

def cntP (n : Int) : List Ins := [(1, 0, 1 + n, 0), (1, 1, 1, 0), (2, 2, 1, 0), (8, 0, 2, 0), (11, 2, 0, 0)]
theorem cnt_code {n : Int} (h0 : 0 ≤ n) (h1 : n < 256) : codeL (cntP n) = cntP n := by
  have h : wholeB (cntP n) = true := by
    have e : ∀ k : Fin 256, wholeB (cntP ((k.1 : Nat) : Int)) = true := by decide +kernel
    have := e ⟨n.toNat, by omega⟩
    simp only at this
    rwa [show ((n.toNat : Nat) : Int) = n by omega] at this
  unfold codeL
  rw [h]
  rfl
theorem stepC_at {q : List Ins} {c : Cx} (k : Nat) (h : c.pc = (k : Int)) (hk : k < q.length) : stepC q c = doC (ins q k) (toPC c ((k : Int) + 1)) := by
  unfold stepC
  rw [if_pos (by omega), h]
  simp
theorem run2_none {q : List Ins} {c : Cx} {n : Nat} (h : (stepC q c).2.1 = 0) : (runC q (n + 1) c).2 = ((runC q n (stepC q c).1).2.1, (runC q n (stepC q c).1).2.2 + 1) := by rw [runC, if_pos h]
theorem run2_call {q : List Ins} {c : Cx} {n : Nat} (h : (stepC q c).2.1 ≠ 0) : (runC q (n + 1) c).2 = ((stepC q c).2, 1) := by rw [runC, if_neg h]
theorem get_put {c : Cx} {i : Nat} (h : i < 8) (v : Int) : (putR c (i : Int) v).rs i = v := by
  unfold putR
  rw [if_pos (by omega)]
  simp
theorem get_other {c : Cx} {i j : Nat} (hne : j ≠ i) (v : Int) : (putR c (i : Int) v).rs j = c.rs j := by
  unfold putR
  split
  · simp [hne]
  · rfl
theorem cnt_len (n : Int) : (cntP n).length = 5 := rfl
theorem cnt_2 (n : Int) {c : Cx} {t : Int} (h0 : c.pc = 2) (h1 : c.rs 1 = 1) (h2 : c.rs 2 = t) (ht : 0 ≤ t) (hu : t ≤ 2000) : stepC (cntP n) c = (putR (toPC c 3) 2 (t + 1), z4) := by
  rw [stepC_at 2 h0 (by rw [cnt_len]; decide), doC_2 _ rfl]
  show (putR (toPC c 3) 2 (wrap64 (getR (toPC c 3) 2 + getR (toPC c 3) 1)), z4) = _
  have e2 : getR (toPC c 3) 2 = t := (getR_nat (k := 2) (toPC c 3) (by decide)).trans h2
  have e1 : getR (toPC c 3) 1 = 1 := (getR_nat (k := 1) (toPC c 3) (by decide)).trans h1
  rw [e1, e2, wrap_in (by omega) (by omega)]
theorem cnt_3 (n : Int) {c : Cx} {z : Nat} (h0 : c.pc = 3) (h1 : c.rs 0 = (z : Int) + 1) (hu : z ≤ 2000) : stepC (cntP n) c = (brC (putR (toPC c 4) 0 (z : Int)) 2 ((z : Int) != 0), z4) := by
  rw [stepC_at 3 h0 (by rw [cnt_len]; decide), doC_8 _ rfl]
  show (brC (putR (toPC c 4) 0 (wrap64 (getR (toPC c 4) 0 - 1))) 2 (getR (putR (toPC c 4) 0 (wrap64 (getR (toPC c 4) 0 - 1))) 0 != 0), z4) = _
  have e1 : getR (toPC c 4) 0 = (z : Int) + 1 := (getR_nat (k := 0) (toPC c 4) (by decide)).trans h1
  rw [e1, show (z : Int) + 1 - 1 = (z : Int) by omega, wrap_in (by omega) (by omega)]
  have e2 : getR (putR (toPC c 4) 0 (z : Int)) 0 = (z : Int) := (getR_nat (k := 0) _ (by decide)).trans (get_put (i := 0) (by decide) _)
  rw [e2]
theorem cnt_4 (n : Int) {c : Cx} {t : Int} (h0 : c.pc = 4) (h1 : c.rs 2 = t) : stepC (cntP n) c = (toPC c 5, (11, t, 0, 0)) := by
  rw [stepC_at 4 h0 (by rw [cnt_len]; decide), doC_call _ (.inl rfl)]
  show (toPC c 5, (11, getR (toPC c 5) 2, 0, 0)) = _
  have e1 : getR (toPC c 5) 2 = t := (getR_nat (k := 2) (toPC c 5) (by decide)).trans h1
  rw [e1]
theorem cnt_loop (n : Int) : ∀ (m : Nat) (t : Int) (k : Nat) (c : Cx), c.pc = 2 → c.rs 0 = (m : Int) + 1 → c.rs 1 = 1 → c.rs 2 = t → 0 ≤ t → t + m ≤ 1000 → 2 * (m + 1) + 1 ≤ k → (runC (cntP n) k c).2 = ((11, t + m + 1, 0, 0), 2 * (m + 1) + 1) := by
  intro m
  induction m with
  | zero =>
    intro t k c h0 h1 h2 h3 ht hm hk
    obtain ⟨k, rfl⟩ : ∃ k', k = k' + 1 + 1 + 1 := ⟨k - 3, by omega⟩
    have s1 := cnt_2 n h0 h2 h3 ht (by omega)
    have p1 : (putR (toPC c 3) 2 (t + 1)).pc = 3 := putR_pc _ _ _
    have q1 : (putR (toPC c 3) 2 (t + 1)).rs 0 = ((0 : Nat) : Int) + 1 := (get_other (i := 2) (j := 0) (by decide) _).trans h1
    have r1 : (putR (toPC c 3) 2 (t + 1)).rs 2 = t + 1 := get_put (i := 2) (by decide) _
    rw [run2_none (by rw [s1]; rfl), s1]
    generalize putR (toPC c 3) 2 (t + 1) = d at *
    have s2 := cnt_3 n p1 q1 (by omega)
    have e : brC (putR (toPC d 4) 0 ((0 : Nat) : Int)) 2 (((0 : Nat) : Int) != 0) = putR (toPC d 4) 0 ((0 : Nat) : Int) := rfl
    rw [e] at s2
    have p2 : (putR (toPC d 4) 0 ((0 : Nat) : Int)).pc = 4 := putR_pc _ _ _
    have r2 : (putR (toPC d 4) 0 ((0 : Nat) : Int)).rs 2 = t + 1 := (get_other (i := 0) (j := 2) (by decide) _).trans r1
    dsimp only
    rw [run2_none (by rw [s2]; rfl), s2]
    generalize putR (toPC d 4) 0 ((0 : Nat) : Int) = f at *
    have s3 := cnt_4 n p2 r2
    dsimp only
    rw [run2_call (by rw [s3]; simp), s3]
    simp
  | succ m ih =>
    intro t k c h0 h1 h2 h3 ht hm hk
    obtain ⟨k, rfl⟩ : ∃ k', k = k' + 1 + 1 := ⟨k - 2, by omega⟩
    have s1 := cnt_2 n h0 h2 h3 ht (by omega)
    have p1 : (putR (toPC c 3) 2 (t + 1)).pc = 3 := putR_pc _ _ _
    have q1 : (putR (toPC c 3) 2 (t + 1)).rs 0 = ((m + 1 : Nat) : Int) + 1 := (get_other (i := 2) (j := 0) (by decide) _).trans h1
    have q2 : (putR (toPC c 3) 2 (t + 1)).rs 1 = 1 := (get_other (i := 2) (j := 1) (by decide) _).trans h2
    have r1 : (putR (toPC c 3) 2 (t + 1)).rs 2 = t + 1 := get_put (i := 2) (by decide) _
    rw [run2_none (by rw [s1]; rfl), s1]
    generalize putR (toPC c 3) 2 (t + 1) = d at *
    have s2 := cnt_3 n p1 q1 (by omega)
    have e0 : (((m + 1 : Nat) : Int) != 0) = true := by simp; omega
    have e : brC (putR (toPC d 4) 0 ((m + 1 : Nat) : Int)) 2 (((m + 1 : Nat) : Int) != 0) = toPC (putR (toPC d 4) 0 ((m + 1 : Nat) : Int)) 2 := by rw [e0]; rfl
    rw [e] at s2
    have r2 : (toPC (putR (toPC d 4) 0 ((m + 1 : Nat) : Int)) 2).rs 2 = t + 1 := (get_other (c := toPC d 4) (i := 0) (j := 2) (by decide) ((m + 1 : Nat) : Int)).trans r1
    have r3 : (toPC (putR (toPC d 4) 0 ((m + 1 : Nat) : Int)) 2).rs 1 = 1 := (get_other (c := toPC d 4) (i := 0) (j := 1) (by decide) ((m + 1 : Nat) : Int)).trans q2
    have r4 : (toPC (putR (toPC d 4) 0 ((m + 1 : Nat) : Int)) 2).rs 0 = (m : Int) + 1 := (get_put (c := toPC d 4) (i := 0) (by decide) ((m + 1 : Nat) : Int)).trans (by omega)
    dsimp only
    rw [run2_none (by rw [s2]; rfl), s2]
    have := ih (t + 1) k _ (rfl : (toPC (putR (toPC d 4) 0 ((m + 1 : Nat) : Int)) 2).pc = 2) r4 r3 r2 (by omega) (by omega) (by omega)
    dsimp only
    rw [this]
    simp only [Prod.mk.injEq, true_and, and_true]
    exact ⟨by omega, by omega⟩
theorem cnt_run {n : Int} (h0 : 0 ≤ n) (h1 : n < 256) : (runC (codeL (cntP n)) 2000 (freshC 0 0)).2 = ((11, 1 + n, 0, 0), 3 + 2 * (1 + n.toNat)) := by
  rw [cnt_code h0 h1]
  have s1 : stepC (cntP n) (freshC 0 0) = (putR (toPC (freshC 0 0) 1) 0 (1 + n), z4) := by
    rw [stepC_at 0 rfl (by rw [cnt_len]; decide), doC_1 _ rfl]
    rfl
  rw [show (2000 : Nat) = 1998 + 1 + 1 from rfl, run2_none (by rw [s1]; rfl), s1]
  have p1 : (putR (toPC (freshC 0 0) 1) 0 (1 + n)).pc = 1 := putR_pc _ _ _
  have q1 : (putR (toPC (freshC 0 0) 1) 0 (1 + n)).rs 0 = 1 + n := get_put (i := 0) (by decide) _
  have q2 : (putR (toPC (freshC 0 0) 1) 0 (1 + n)).rs 2 = 0 := get_other (i := 0) (j := 2) (by decide) _
  generalize putR (toPC (freshC 0 0) 1) 0 (1 + n) = d at *
  have s2 : stepC (cntP n) d = (putR (toPC d 2) 1 1, z4) := by
    rw [stepC_at 1 p1 (by rw [cnt_len]; decide), doC_1 _ rfl]
    rfl
  dsimp only
  rw [run2_none (by rw [s2]; rfl), s2]
  dsimp only
  have := cnt_loop n n.toNat 0 1998 (putR (toPC d 2) 1 1) (putR_pc _ _ _) ((get_other (i := 1) (j := 0) (by decide) _).trans (q1.trans (by omega))) (get_put (i := 1) (by decide) _) ((get_other (i := 1) (j := 2) (by decide) _).trans q2) (by omega) (by omega) (by omega)
  rw [this]
  simp only [Prod.mk.injEq, true_and, and_true]
  exact ⟨by omega, by omega⟩
end Go.Proofs.YtllnpkijojpccaaDoor
