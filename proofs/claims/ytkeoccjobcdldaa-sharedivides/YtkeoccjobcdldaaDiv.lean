/- Contracts of Divide, of the statements' Ints and of slices.Equal. -/
import Derived.Test.YtkeoccjobcdldaaNext
import Derived.Deep.OwnRows
namespace Go.Proofs.Ytkeoccjobcdldaa
open Go.RowKit

/-- Ints that the call made: a row of its own. -/
def Ow (w0 w : World) (a : Option Addr) (c : Nat) (xs : List Int) : Prop := IX w a xs ∧ (xs.length ≤ c ∧ ∀ b o, a = some ⟨b, o, none⟩ → w0.heap.size ≤ b) ∧ Below w0.heap.size w0 w
/-- A block of ints that is being written. -/
def WB (w : World) (G n : Nat) (xs : List Int) : Prop := xs.length = n ∧ (∀ j, j < n → w.cell? ⟨G, j, none⟩ = some (.int .i64 (ix xs j))) ∧ ∀ j, j < n → w.frozen? ⟨G, j, none⟩ = false
theorem WB.ix {w : World} {G n : Nat} {xs : List Int} (h : WB w G n xs) : IX w (some ⟨G, 0, none⟩) xs := fun j hj => ⟨G, 0, rfl, by rw [Nat.zero_add]; exact h.2.1 j (by rw [← h.1]; exact hj)⟩
theorem WB.set {w : World} {G n p : Nat} {xs : List Int} {v : Int} (h : WB w G n xs) (hp : p < n) : WB (w.setCell ⟨G, p, none⟩ (.int .i64 v)) G n (xs.set p v) := by
  obtain ⟨h0, h1, h2⟩ := h
  refine ⟨by rw [List.length_set]; exact h0, fun m hm => ?_, fun m hm => by rw [← h2 m hm]; simp⟩
  rw [ix_set (by omega)]
  by_cases hmp : m = p
  · subst hmp
    rw [if_pos rfl]
    exact World.cell?_setCell_same _ _ _ (h1 m hm)
  · rw [if_neg hmp, World.cell?_setCell_other _ _ _ _ (fun h => hmp (congrArg Addr.off h).symm)]
    exact h1 m hm
theorem WB.below {w w' : World} {G n : Nat} {xs : List Int} (h : WB w G n xs) (hb : Below w.heap.size w w') : WB w' G n xs :=
  ⟨h.1, fun j hj => cell_on hb (h.2.1 j hj), fun j hj => (hb.frozen (p := ⟨G, j, none⟩) (World.block_lt_of_cell? w _ (h.2.1 j hj))).trans (h.2.2 j hj)⟩
theorem info3 : (Try.prog.info? 3).map (fun i => (i.zero, i.size, i.bytes)) = some (some (.int .i64 0), 1, 8) := by kernel_rfl
theorem WB.new (w : World) (n : Nat) : WB (w.alloc (.cells (madeCells #[.int .i64 0] n) 3)) w.heap.size n (List.replicate n 0) := by
  refine ⟨by simp, fun m hm => ?_, fun m hm => by simp [go_sem]⟩
  rw [World.cell?_alloc_at _ _ _ _ rfl, ← Array.getElem?_toList, toList_madeCells_one, List.getElem?_replicate, if_pos hm, ix_rep]

theorem divL_okx {ls : List (Int × Int)} {s : Nat} (hP : Pos ls) (hs : s < ls.length ∨ ls.length = 0) (k : Nat) : OkX (divL ls s k) := fun i hi => by
  have h := divL_inv hP hs k
  rw [h.len] at hi
  have h1 := h.lo i hi
  have h2 := h.hi i hi
  have h3 := (hP i hi).2.2.2
  exact ⟨by omega, by omega⟩

section
variable {w : World} {la : Option Addr} {lc : Nat} {ls : List (Int × Int)}

set_option maxHeartbeats 1000000 in
theorem divide_any (hl : CL w la ls) (ol : OkL ls) (hn : ls.length ≤ 1000) (cores start : Int) (hs : I64 start) :
    Calls Try.prog 10 #[.int .i64 cores, .slice la ls.length lc, .int .i64 start] w fun e w' => ∃ a c, e = .returned (.slice a (divA cores ls start).length c) ∧ Ow w w' a c (divA cores ls start) := by
  have G := good_any (lc := lc) hl hn
  by_cases h0 : cores < 0
  · rw [divA_bad (.inl h0)]
    go_enter Try.func10, Try.ntmps10
    go_wp2_with fail
    go_ret
    exact ⟨none, 0, rfl, IX.nil _ _, ⟨Nat.le_refl _, fun b o e => by cases e⟩, Below.refl _ _⟩
  by_cases h1 : 64 < cores
  · rw [divA_bad (.inr (.inl h1))]
    go_enter Try.func10, Try.ntmps10
    go_wp2_with fail
    go_ret
    exact ⟨none, 0, rfl, IX.nil _ _, ⟨Nat.le_refl _, fun b o e => by cases e⟩, Below.refl _ _⟩
  have h1' : decide (64 < cores) = false := by simpa using h1
  cases hg : goodB ls
  · rw [divA_bad (.inr (.inr hg))]
    rw [hg] at G
    clear h1
    go_enter Try.func10, Try.ntmps10
    go_wp2_with (first | (go_at_call 12; (with_reducible refine G.mono ?_); rintro e w2 ⟨rfl, b2⟩))
    go_ret
    exact ⟨none, 0, rfl, IX.nil _ _, ⟨Nat.le_refl _, fun b o e => by cases e⟩, b2⟩
  · rw [divA_good (by omega) (by omega) hg]
    rw [hg] at G
    obtain ⟨hP, hn64⟩ := good_pos hg
    have hat := atN_ok ls start
    have hmk : ∀ W : World, (Instr.makeSlice 25 (.int .i64 (ls.length : Int)) (.int .i64 (ls.length : Int))).run Try.prog W = .ok (.slice (some ⟨W.heap.size, 0, none⟩) ls.length ls.length) (W.alloc (.cells (madeCells #[.int .i64 0] ls.length) 3)) := by
      intro W
      have h := run_make_row' 25 3 (.int .i64 0) 8 Try.underlying25 info3 rfl .i64 .i64 ls.length (by omega) (by omega) W
      simpa using h
    obtain ⟨K, rfl⟩ := Int.eq_ofNat_of_zero_le (show 0 ≤ cores by omega)
    have hK : K ≤ 64 := by omega
    rw [show ((K : Nat) : Int).toNat = K from Int.toNat_natCast K]
    have NX := fun W k xa xc (h : Below w.heap.size w W) (hx : IX W xa (divL ls (atN ls.length start) k)) => next_any (lc := lc) (xc := xc) (hl.below h) hx ol (divL_okx hP hat k) (divL_len _ _ _) hn64 start hs
    have HLT : ∀ k m, nextO ls (divL ls (atN ls.length start) k) (atN ls.length start) = some m → m < ls.length := fun k m h => foldO_lt hat _ (Nat.le_refl _) m h
    have HLN : ∀ k, (divL ls (atN ls.length start) k).length = ls.length := fun k => divL_len _ _ k
    have HLO : ∀ k m, m < ls.length → 0 ≤ ix (divL ls (atN ls.length start) k) m ∧ ix (divL ls (atN ls.length start) k) m ≤ 64 := fun k m hm => by
      have h := divL_inv hP hat k
      have := h.lo m hm; have := h.hi m hm; have := (hP m hm).2.2.2
      omega
    have HZ : divL ls (atN ls.length start) 0 = List.replicate ls.length 0 := rfl
    have HS : ∀ k, divL ls (atN ls.length start) (k + 1) = give (divL ls (atN ls.length start) k) (nextO ls (divL ls (atN ls.length start) k) (atN ls.length start)) := fun k => rfl
    have HST : ∀ k m, nextO ls (divL ls (atN ls.length start) k) (atN ls.length start) = none → k ≤ m → divL ls (atN ls.length start) m = divL ls (atN ls.length start) k := fun k m h hm => divL_stop h m hm
    clear hat hP hg
    generalize atN ls.length start = s at *
    clear h1 h1'
    have h1' : decide (64 < (K : Int)) = false := by simp; omega
    go_enter Try.func10, Try.ntmps10
    go_wp2_with (first | (go_at_call 12; (with_reducible refine G.mono ?_); rintro e w2 ⟨rfl, b2⟩))
    have hW := WB.new w2 ls.length
    rw [← HZ] at hW
    have hB : Below w.heap.size w (w2.alloc (.cells (madeCells #[.int .i64 0] ls.length) 3)) := b2.alloc b2.size _
    have hg1 : Hid (w.heap.size ≤ w2.heap.size) := b2.size
    generalize w2.alloc (.cells (madeCells #[.int .i64 0] ls.length) 3) = W0 at *
    generalize w2.heap.size = g at *
    clear hmk HZ b2
    go_loopw [24, 8] (fun v _ wr => ∃ k : Nat, k ≤ K ∧ v = .int .i64 k ∧ WB wr g ls.length (divL ls s k) ∧ Below w.heap.size w wr) (fun v _ _ => 64 - (intOf v).toNat)
    case atStart => exact ⟨0, Nat.zero_le _, rfl, hW, hB⟩
    case round =>
      clear hW hB
      obtain ⟨k, hk, rfl, hW, hB⟩ := hrel
      by_cases hlt : k < K
      · have N := NX wr k _ ls.length hB hW.ix
        rw [HLN k] at N
        have hlt' : (k : Int) < (K : Int) := by omega
        cases ho : nextO ls (divL ls s k) s with
        | none =>
          have hst := HST k K ho (by omega)
          rw [ho] at N
          have N' : Calls Try.prog 18 #[.slice la ls.length lc, .slice (some ⟨g, 0, none⟩) ls.length ls.length, .int .i64 start] wr fun e w' => e = .returned (.int .i64 (-1)) ∧ Below wr.heap.size wr w' := N
          clear N ho HST NX HLT HS HLO
          go_wp2_with (first | (go_at_call 18; (with_reducible refine N'.mono ?_); rintro e w4 ⟨rfl, b4⟩))
          go_ret
          refine ⟨some ⟨g, 0, none⟩, ls.length, by rw [HLN K]; rfl, ?_, ⟨by rw [HLN K]; exact Nat.le_refl _, fun b o e => by cases e; exact hg1.out⟩, below2 hB hB.size b4⟩
          rw [hst]
          exact (hW.below b4).ix
        | some m =>
          have hm := HLT k m ho
          have hlo := HLO k m hm
          have hs1 := HS k
          rw [ho] at N hs1
          have hs2 : Hid (divL ls s (k + 1) = (divL ls s k).set m (ix (divL ls s k) m + 1)) := hs1
          have N' : Calls Try.prog 18 #[.slice la ls.length lc, .slice (some ⟨g, 0, none⟩) ls.length ls.length, .int .i64 start] wr fun e w' => e = .returned (.int .i64 (m : Int)) ∧ Below wr.heap.size wr w' := N
          have hne : ((m : Int) == -1) = false := by simp
          have hm' : (m : Int) < (ls.length : Int) := by omega
          clear N ho HST NX HLT HS HLO hs1
          have hwb := fun W (h : Below wr.heap.size wr W) => hW.below h
          generalize hxx : ix (divL ls s k) m = x at *
          go_wp2_with (first | (go_at_call 18; (with_reducible refine N'.mono ?_); rintro e w4 ⟨rfl, b4⟩; have c4 := (hwb _ b4).2.1 m hm; have f4 := (hwb _ b4).2.2 m hm; rw [hxx] at c4))
          go_roundw
          case rel =>
            refine ⟨k + 1, by omega, by simp, ?_, (below2 hB hB.size b4).setCell (by have := hg1.out; simp; omega) _⟩
            rw [hs2.out]
            exact (hwb _ b4).set hm
          case measure =>
            simp [intOf]
            omega
      · obtain rfl : k = K := by omega
        go_wp2_with fail
        go_ret
        exact ⟨some ⟨g, 0, none⟩, ls.length, by rw [HLN]; rfl, hW.ix, ⟨by rw [HLN]; exact Nat.le_refl _, fun b o e => by cases e; exact hg1.out⟩, hB⟩
end
end Go.Proofs.Ytkeoccjobcdldaa
