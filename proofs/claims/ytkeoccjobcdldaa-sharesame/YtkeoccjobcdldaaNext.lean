/- Contracts of next and of its closure. -/
import Derived.Test.YtkeoccjobcdldaaGood
namespace Go.Proofs.Ytkeoccjobcdldaa
open Go.RowKit

theorem cons_no {ls : List (Int × Int)} {xs : List Int} {l : Option Nat} {i : Nat} (h : hunB ls xs i = false) : stepO ls xs l i = l := by simp [stepO, h]
theorem cons_new {ls : List (Int × Int)} {xs : List Int} {i : Nat} (h : hunB ls xs i = true) : stepO ls xs none i = some i := by simp [stepO, h]
theorem cons_lt {ls : List (Int × Int)} {xs : List Int} {i b : Nat} (h : hunB ls xs i = true) (hl : levI ls xs i b < 0) : stepO ls xs (some b) i = some i := by simp [stepO, h, hl]
theorem cons_ge {ls : List (Int × Int)} {xs : List Int} {i b : Nat} (h : hunB ls xs i = true) (hl : ¬ levI ls xs i b < 0) : stepO ls xs (some b) i = some b := by simp [stepO, h, hl]

section
variable {w : World} {la xa : Option Addr} {lc xc : Nat} {ls : List (Int × Int)} {xs : List Int}

set_option maxHeartbeats 1000000 in
theorem cons_any (hl : CL w la ls) (hx : IX w xa xs) (ol : OkL ls) (ox : OkX xs) (he : xs.length = ls.length) {i : Nat} (hi : i < ls.length) {B0 B1 B2 : Nat} (l : Option Nat) (hlt : ∀ m, l = some m → m < ls.length)
    (k0 : w.cell? ⟨B0, 0, none⟩ = some (.slice la ls.length lc)) (k1 : w.cell? ⟨B1, 0, none⟩ = some (.slice xa xs.length xc)) (k2 : w.cell? ⟨B2, 0, none⟩ = some (.int .i64 (lI l))) (f2 : w.frozen? ⟨B2, 0, none⟩ = false) :
    Calls Try.prog 28 #[.int .i64 i, .pointer (some ⟨B0, 0, none⟩), .pointer (some ⟨B1, 0, none⟩), .pointer (some ⟨B2, 0, none⟩)] w fun e w' => e = .returned (.tuple #[]) ∧ w'.cell? ⟨B2, 0, none⟩ = some (.int .i64 (lI (stepO ls xs l i))) ∧ w'.frozen? ⟨B2, 0, none⟩ = false ∧ But [B2] w w' := by
  have f2w : ∀ W, Below w.heap.size w W → W.frozen? ⟨B2, 0, none⟩ = false := fun W h => (h.frozen (p := ⟨B2, 0, none⟩) (World.block_lt_of_cell? w _ k2)).trans f2
  have HU := fun W (h : Below w.heap.size w W) => hungry_any (lc := lc) (xc := xc) (hl.below h) (hx.below h) he hi
  have LV := fun W (h : Below w.heap.size w W) (b : Nat) (hb : b < ls.length) => level_any (lc := lc) (xc := xc) (hl.below h) (hx.below h) ol ox he hi hb
  cases hh : hunB ls xs i
  · rw [cons_no hh]
    rw [hh] at HU
    clear LV hh hl hx he
    go_enter Try.func28, Try.ntmps28
    go_wp2_with (first | (go_at_call 29; (with_reducible refine (HU _ (Below.refl _ _)).mono ?_); rintro e w2 ⟨rfl, b2⟩; have k2' := cell_on b2 k2))
    go_end0
    exact ⟨rfl, k2', f2w _ b2, But.of_below b2⟩
  · rw [hh] at HU
    cases l with
    | none =>
      rw [cons_new hh]
      clear LV hh hl hx he
      have k2a : w.cell? ⟨B2, 0, none⟩ = some (.int .i64 (-1)) := k2
      clear k2
      go_enter Try.func28, Try.ntmps28
      go_wp2_with (first | (go_at_call 29; (with_reducible refine (HU _ (Below.refl _ _)).mono ?_); rintro e w2 ⟨rfl, b2⟩; have k2' := cell_on b2 k2a; have f2' := f2w _ b2))
      go_end0
      exact ⟨rfl, World.cell?_setCell_same _ _ _ k2', by simpa using f2', (But.of_below b2).set (by simp) _⟩
    | some b =>
      have hb := hlt b rfl
      have k2a : w.cell? ⟨B2, 0, none⟩ = some (.int .i64 (b : Int)) := k2
      have hne : ((b : Int) == -1) = false := by simp
      have L := fun W (h : Below w.heap.size w W) => LV W h b hb
      by_cases hv : levI ls xs i b < 0
      · rw [cons_lt hh hv]
        clear LV hh hl hx he k2 hlt
        generalize levI ls xs i b = q at *
        go_enter Try.func28, Try.ntmps28
        go_wp2_with (first
          | (go_at_call 29; (with_reducible refine (HU _ (Below.refl _ _)).mono ?_); rintro e w2 ⟨rfl, b2⟩; have k2' := cell_on b2 k2a; have k0' := cell_on b2 k0; have k1' := cell_on b2 k1)
          | (go_at_call 30; (with_reducible refine (L _ b2).mono ?_); rintro e w3 ⟨rfl, b3⟩; have k2'' := cell_on b3 k2'; have f2' := f2w _ (below2 b2 b2.size b3)))
        go_end0
        exact ⟨rfl, World.cell?_setCell_same _ _ _ k2'', by simpa using f2', (But.of_below (below2 b2 b2.size b3)).set (by simp) _⟩
      · rw [cons_ge hh hv]
        have hv' : decide (levI ls xs i b < 0) = false := by simpa using hv
        clear LV hh hl hx he k2 hlt hv
        generalize levI ls xs i b = q at *
        go_enter Try.func28, Try.ntmps28
        go_wp2_with (first
          | (go_at_call 29; (with_reducible refine (HU _ (Below.refl _ _)).mono ?_); rintro e w2 ⟨rfl, b2⟩; have k2' := cell_on b2 k2a; have k0' := cell_on b2 k0; have k1' := cell_on b2 k1)
          | (go_at_call 30; (with_reducible refine (L _ b2).mono ?_); rintro e w3 ⟨rfl, b3⟩; have k2'' := cell_on b3 k2'))
        go_end0
        exact ⟨rfl, k2'', f2w _ (below2 b2 b2.size b3), But.of_below (below2 b2 b2.size b3)⟩

theorem rd_rem {n s k : Nat} (hs : s < n) (hk : k < n) : Int.tmod ((s : Int) + (k : Int)) (n : Int) = ((rd n s k : Nat) : Int) := by
  rw [Int.tmod_eq_emod_of_nonneg (by omega)]
  unfold rd
  split
  · rw [Int.emod_eq_of_lt (by omega) (by omega)]; omega
  · rw [show (s : Int) + k = ((s + k - n : Nat) : Int) + n by omega, Int.add_emod_right, Int.emod_eq_of_lt (by omega) (by omega)]
theorem div_rest {a q r : Int} {n : Nat} (h : Big.DivOf a (n : Int) q r) : r = ((atN n a : Nat) : Int) := by
  obtain ⟨h1, h2⟩ := h
  have hn : (0 : Int) < n := by omega
  unfold atN
  have h3 : a % (n : Int) = r := by
    rw [← h1, Int.add_comm, Int.add_mul_emod_self_right]
    exact Int.emod_eq_of_lt (by omega) (by omega)
  rw [h3]
  omega

set_option maxHeartbeats 1000000 in
theorem next_any (hl : CL w la ls) (hx : IX w xa xs) (ol : OkL ls) (ox : OkX xs) (he : xs.length = ls.length) (hn : ls.length ≤ 64) (start : Int) (hs : I64 start) :
    Calls Try.prog 18 #[.slice la ls.length lc, .slice xa xs.length xc, .int .i64 start] w fun e w' => e = .returned (.int .i64 (lI (nextO ls xs (atN ls.length start)))) ∧ Below w.heap.size w w' := by
  have hmf : ∀ (fn : Fn) (first cap : Array Value) (w : World), (Instr.makeFunc fn first cap).run Try.prog w = .ok (.func fn first cap) w := fun _ _ _ _ => rfl
  obtain ⟨hs0, hs1⟩ := hs
  by_cases h0 : ls.length = 0
  · have e0 : ls = [] := List.eq_nil_of_length_eq_zero h0
    subst e0
    rw [nextO_nil]
    have D := fun W => Big.div_no start 0 W (.inl rfl)
    clear he
    go_enter Try.func18, Try.ntmps18
    go_wp2_with (first | (go_at_call 25; (with_reducible refine (D _).mono ?_); rintro e w2 ⟨rfl, rfl⟩))
    generalize hW : World.alloc (World.alloc (World.alloc _ _) _) _ = W0
    have kk : W0.cell? ⟨w.heap.size + 1 + 1, 0, none⟩ = some (.int .i64 (-1)) := by rw [← hW]; simp [go_sem]
    have kb : Below w.heap.size w W0 := by rw [← hW]; exact (((Below.refl _ _).alloc (Nat.le_refl _) _).alloc (by simp) _).alloc (by simp; omega) _
    clear hW
    go_loopw [24, 12] (fun v _ wr => v = .int .i64 0 ∧ wr = W0) (fun _ _ _ => 0)
    case atStart => exact ⟨rfl, rfl⟩
    case round =>
      obtain ⟨rfl, rfl⟩ := hrel
      go_wp2_with fail
      go_ret
      exact ⟨rfl, kb⟩
  · have hs' := atN_lt (n := ls.length) start (by omega)
    have D := fun W => Big.div_yes start (ls.length : Int) W hs0 hs1 (by omega) (by omega) (by omega) (by omega)
    have f0 : foldO ls xs ls.length (atN ls.length start) 0 = none := rfl
    have HF : ∀ k m, k ≤ ls.length → foldO ls xs ls.length (atN ls.length start) k = some m → m < ls.length := fun k m hk h => foldO_lt (.inl hs') k hk m h
    have HR : ∀ k, k < ls.length → Int.tmod ((atN ls.length start : Int) + (k : Int)) (ls.length : Int) = ((rd ls.length (atN ls.length start) k : Nat) : Int) := fun k hk => rd_rem hs' hk
    have HL : ∀ k, k < ls.length → rd ls.length (atN ls.length start) k < ls.length := fun k hk => rd_lt hs' hk
    have DR : ∀ q r, Big.DivOf start (ls.length : Int) q r → r = ((atN ls.length start : Nat) : Int) := fun q r h => div_rest h
    have HN : Hid (nextO ls xs (atN ls.length start) = foldO ls xs ls.length (atN ls.length start) ls.length) := rfl
    rw [HN.out]
    have hhe : Hid (xs.length = ls.length) := he
    clear he HN
    generalize atN ls.length start = s at *
    go_enter Try.func18, Try.ntmps18
    go_wp2_with (first | (go_at_call 25; (with_reducible refine (D _).mono ?_); rintro e w2 ⟨q, r, rfl, hdo, b2⟩; obtain rfl := DR q r hdo; clear hdo; have q0 : w2.cell? ⟨w.heap.size, 0, none⟩ = some (.slice la ls.length lc) := cell_on b2 (by simp [go_sem, World.cell?_alloc_past])))
    have q1 : w2.cell? ⟨w.heap.size + 1, 0, none⟩ = some (.slice xa xs.length xc) := cell_on b2 (by simp [go_sem, World.cell?_alloc_past])
    have q2 : w2.cell? ⟨w.heap.size + 1 + 1, 0, none⟩ = some (.int .i64 (-1)) := cell_on b2 (by simp [go_sem])
    have q3 : w2.frozen? ⟨w.heap.size + 1 + 1, 0, none⟩ = false := (b2.frozen (p := ⟨w.heap.size + 1 + 1, 0, none⟩) (by simp)).trans (by simp [go_sem])
    have kb : Below w.heap.size w w2 := ((((Below.refl _ _).alloc (Nat.le_refl _) _).alloc (by simp) _).alloc (by simp; omega) _).trans (b2.mono (by simp; omega))
    have kz : w.heap.size + 1 + 1 < w2.heap.size := by have := b2.size; simp at this; omega
    clear b2 D DR
    go_loopw [24, 12] (fun v _ wr => ∃ k : Nat, k ≤ ls.length ∧ v = .int .i64 k ∧ wr.cell? ⟨w.heap.size + 1 + 1, 0, none⟩ = some (.int .i64 (lI (foldO ls xs ls.length s k))) ∧ wr.frozen? ⟨w.heap.size + 1 + 1, 0, none⟩ = false ∧ But [w.heap.size + 1 + 1] w2 wr) (fun v _ _ => 64 - (intOf v).toNat)
    case atStart => exact ⟨0, Nat.zero_le _, rfl, q2, q3, But.refl _ _⟩
    case round =>
      clear q2 q3
      obtain ⟨k, hk, rfl, q2, q3, hbut⟩ := hrel
      have r0 := hbut.cell' q0 (by simp; omega)
      have r1 := hbut.cell' q1 (by simp)
      have hbel : Below w.heap.size w wr := kb.trans (hbut.below (by omega) (by simp; omega))
      by_cases hlt : k < ls.length
      · have C := cons_any (hl.below hbel) (hx.below hbel) ol ox hhe.out (HL k hlt) (foldO ls xs ls.length s k) (fun m hm => HF k m hk hm) r0 r1 q2 q3
        have hst : stepO ls xs (foldO ls xs ls.length s k) (rd ls.length s k) = foldO ls xs ls.length s (k + 1) := rfl
        rw [hst] at C
        have hR := HR k hlt
        have hlt' : (k : Int) < (ls.length : Int) := by omega
        have hsb : (s : Int) < 64 := by omega
        clear hst HR HL HF
        go_wp2_with (first | (go_at_call 28; (with_reducible refine C.mono ?_); rintro e w4 ⟨rfl, k4, f4, b4⟩))
        go_roundw
        case rel => exact ⟨k + 1, by omega, by simp, k4, f4, hbut.trans b4⟩
        case measure =>
          simp [intOf]
          omega
      · obtain rfl : k = ls.length := by omega
        go_wp2_with fail
        go_ret
        exact ⟨rfl, hbel⟩
end
end Go.Proofs.Ytkeoccjobcdldaa
