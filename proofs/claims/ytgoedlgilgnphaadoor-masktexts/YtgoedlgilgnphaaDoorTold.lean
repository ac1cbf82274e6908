/- What both Parse tell of a text: plain facts. -/
import Derived.Test.YtgoedlgilgnphaaDoorParseT
namespace Go.Proofs.YtgoedlgilgnphaaDoor
open Go.RowKit Go.Shelf

/-- The set whose text it is; or that there is none. -/
def told (s : List UInt8) (p : Nat × Bool) : Prop :=
  (∃ m, m < 18446744073709551616 ∧ textL m = s ∧ p = (m, true)) ∨ ((∀ m, m < 18446744073709551616 → textL m ≠ s) ∧ p = (0, false))

theorem text_zero : textL 0 = [45] := by unfold textL; rw [if_pos rfl]
theorem text_back {m : Nat} (hm : m < 18446744073709551616) (h0 : m ≠ 0) : okAll (splitL (textL m)) ∧ accL (splitL (textL m)) = m := by
  rw [split_text hm h0]
  exact ⟨okAll_parts _, by rw [accL_parts, orRuns_runs hm]⟩
theorem text_inj {m k : Nat} (hm : m < 18446744073709551616) (hk : k < 18446744073709551616) (h : textL m = textL k) : m = k := by
  by_cases h0 : m = 0
  · subst h0
    by_cases k0 : k = 0
    · exact k0.symm
    · exact absurd (h.symm.trans text_zero) (text_ne hk k0)
  · by_cases k0 : k = 0
    · subst k0
      exact absurd (h.trans text_zero) (text_ne hm h0)
    · have a := (text_back hm h0).2
      have b := (text_back hk k0).2
      rw [h] at a
      exact a.symm.trans b
theorem told_one {s : List UInt8} {p p' : Nat × Bool} (h : told s p) (h' : told s p') : p = p' := by
  rcases h with ⟨m, hm, e, rfl⟩ | ⟨hn, rfl⟩ <;> rcases h' with ⟨k, hk, e', rfl⟩ | ⟨hn', rfl⟩
  · rw [text_inj hm hk (e.trans e'.symm)]
  · exact absurd e (hn' m hm)
  · exact absurd e' (hn k hk)
  · rfl
theorem told_parse {s : List UInt8} {p : Nat × Bool} (h0 : s ≠ [45]) (h : parseV s p) : told s p := by
  rcases h with ⟨_, ht, rfl⟩ | ⟨hn, rfl⟩
  · exact .inl ⟨_, accL_lt _, ht, rfl⟩
  · refine .inr ⟨fun m hm e => ?_, rfl⟩
    have hm0 : m ≠ 0 := by rintro rfl; exact h0 (e.symm.trans text_zero)
    obtain ⟨a, b⟩ := text_back hm hm0
    rw [e] at a b
    exact hn ⟨a, by rw [b]; exact e⟩

theorem parse_told (s : List UInt8) (hs : s.length ≤ 400) (w : World) (hT : Tab w) (hE : Errs w) :
    Calls Tryd.prog 33 #[.string ⟨s.toArray⟩] w fun e w' => (∃ p, told s p ∧ e = .returned (.tuple #[.int .u64 (p.1 : Nat), .bool p.2])) ∧ Below w.heap.size w w' := by
  by_cases h0 : s = [45]
  · subst h0
    have := parse_text 0 (by decide) w hT hE
    rw [text_zero] at this
    refine this.mono ?_
    rintro e w' ⟨rfl, hb⟩
    exact ⟨⟨(0, true), .inl ⟨0, by decide, text_zero, rfl⟩, rfl⟩, hb⟩
  · refine (parse_any s hs h0 w hT hE).mono ?_
    rintro e w' ⟨⟨p, hp, rfl⟩, hb⟩
    exact ⟨⟨p, told_parse h0 hp, rfl⟩, hb⟩

/-- A digit, and its worth. -/
def isD (c : UInt8) : Bool := decide (48 ≤ c.toNat) && decide (c.toNat ≤ 57)
def dvR (c : UInt8) : Nat := c.toNat - 48
/-- The number that a text begins with, of at most two digits, and how many. -/
def numR : List UInt8 → Nat × Nat
  | [] => (0, 0)
  | [a] => if isD a then (dvR a, 1) else (0, 0)
  | a :: b :: _ => if isD a then (if isD b then (10 * dvR a + dvR b, 2) else (dvR a, 1)) else (0, 0)

theorem dd_fit : ∀ a : Fin 64, (match dd a.1 with | [x] => isD x && decide (dvR x = a.1) | [x, y] => isD x && isD y && decide (10 * dvR x + dvR y = a.1) | _ => false) = true := by decide
theorem num_dd {a : Nat} (ha : a < 64) (tl : List UInt8) (ht : tl = [] ∨ ∃ c r, tl = c :: r ∧ isD c = false) : numR (dd a ++ tl) = (a, (dd a).length) := by
  have h := dd_fit ⟨a, ha⟩
  dsimp only at h
  generalize dd a = l at h
  match l, h with
  | [x], h =>
    simp at h
    rcases ht with rfl | ⟨c, r, rfl, hc⟩
    · simp [numR, h.1, h.2]
    · simp [numR, h.1, h.2, hc]
  | [x, y], h =>
    simp at h
    simp [numR, h.1.1, h.1.2, h.2]
theorem num_le (s : List UInt8) : (numR s).2 ≤ s.length ∧ (numR s).2 ≤ 2 ∧ (numR s).1 ≤ 99 := by
  have hd : ∀ c : UInt8, isD c = true → dvR c ≤ 9 := fun c h => by unfold isD at h; unfold dvR; simp at h; omega
  match s with
  | [] => simp [numR]
  | [a] =>
    by_cases h : isD a = true
    · have := hd a h; simp [numR, h]; omega
    · simp [numR, h]
  | a :: b :: r =>
    by_cases h : isD a = true
    · have h1 := hd a h
      by_cases h2 : isD b = true
      · have h3 := hd b h2; simp [numR, h, h2]; omega
      · simp [numR, h, h2]; omega
    · simp [numR, h]

/-- While a text is read: if it is a set's, the runs that were read, and those ahead. -/
def Sync (s rest : List UInt8) (m : Nat) : Prop := ∀ t, t < 18446744073709551616 → textL t = s → t ≠ 0 →
  ∃ pre rs, runsS t = pre ++ rs ∧ rs ≠ [] ∧ rest = Lib.join (partsL rs) [44] ∧ m = orRuns pre

theorem sync_start (s : List UInt8) : Sync s s 0 := by
  intro t ht e h0
  refine ⟨[], runsS t, rfl, runsS_ne ht h0, ?_, rfl⟩
  rw [← e]
  unfold textL
  rw [if_neg h0]

theorem isD_44 : isD 44 = false := by decide
theorem isD_45 : isD 45 = false := by decide

/-- One run more. -/
theorem join_step (r : R64) (rs : List R64) : ∃ tl, Lib.join (partsL (r :: rs)) [44] = partL r.1.1 r.1.2 ++ tl ∧ ((rs = [] ∧ tl = []) ∨ (rs ≠ [] ∧ tl = 44 :: Lib.join (partsL rs) [44])) := by
  cases rs with
  | nil => exact ⟨[], by simp [partsL, Lib.join_one], .inl ⟨rfl, rfl⟩⟩
  | cons r2 rs =>
    refine ⟨44 :: Lib.join (partsL (r2 :: rs)) [44], ?_, .inr ⟨by simp, rfl⟩⟩
    simp [partsL, Lib.join_cons, Lib.joinTail]
end Go.Proofs.YtgoedlgilgnphaaDoor
