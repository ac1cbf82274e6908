/- What was put is got: the calls. -/
import Derived.Test.YtdndpncbagjidaaSrc
import Derived.Test.YtdndpncbagjidaaBackM
namespace Go.Proofs.Ytdndpncbagjidaa
open Go.RowKit

theorem GotS.put {α : Type} {B : Nat} {w w' : World} {V : α → Value → World → Prop} {f : List UInt8 → Nat × α × List UInt8} {z v : α} {bs t : List UInt8} {e : Ending} (h : GotS B w V f z (0, bs) e w') (hf : f bs = (0, v, t)) :
    But [B] w w' ∧ SQ w' B (0, t) ∧ ∃ u, e = .returned u ∧ V v u w' := by
  obtain ⟨h1, h2, h3⟩ := h
  rw [getS_ok hf] at h2 h3
  exact ⟨h1, h2, h3⟩

section
variable {S : Nat} {W : World} {rest : List UInt8}
theorem back0 (N : Nat) (hN : N < 2 ^ 64) (h : SQ W S (0, numL N ++ rest)) :
    Calls Try.prog 28 #[.pointer (some ⟨S, 0, none⟩), .int .u64 18446744073709551615] W fun e w' => e = .returned (.int .u64 (N : Int)) ∧ But [S] W w' ∧ SQ w' S (0, rest) := by
  refine (src28 _ W h 18446744073709551615).mono ?_
  intro e w' hg
  obtain ⟨h1, h2, u, rfl, rfl⟩ := hg.put (numT_put hN (by omega) rest)
  exact ⟨rfl, h1, h2⟩
theorem back1 (i : Int) (hi : I64 i) (h : SQ W S (0, numL (zigN i) ++ rest)) :
    Calls Try.prog 29 #[.pointer (some ⟨S, 0, none⟩), .int .i64 (-9223372036854775808), .int .i64 9223372036854775807] W fun e w' => e = .returned (.int .i64 i) ∧ But [S] W w' ∧ SQ w' S (0, rest) := by
  refine (src29 _ W h (-9223372036854775808) 9223372036854775807).mono ?_
  intro e w' hg
  obtain ⟨h1, h2, u, rfl, rfl⟩ := hg.put (intT_put hi hi.1 hi.2 rest)
  exact ⟨rfl, h1, h2⟩
theorem back2 (s : ByteArray) (hs : s.size ≤ 200) (h : SQ W S (0, numL s.size ++ s.data.toList ++ rest)) :
    Calls Try.prog 30 #[.pointer (some ⟨S, 0, none⟩), .int .i64 200] W fun e w' => e = .returned (.string s) ∧ But [S] W w' ∧ SQ w' S (0, rest) := by
  have hl : s.data.toList.length = s.size := by simp
  rw [List.append_assoc, ← hl] at h
  refine (src30 _ W h 200 (by omega)).mono ?_
  intro e w' hg
  obtain ⟨h1, h2, u, rfl, rfl⟩ := hg.put (textT_put (l := s.data.toList) (by omega) (by omega))
  refine ⟨?_, h1, h2⟩
  simp [strV]
theorem back3 (f : Bool) (h : SQ W S (0, [if f then 1 else 0] ++ rest)) :
    Calls Try.prog 31 #[.pointer (some ⟨S, 0, none⟩)] W fun e w' => e = .returned (.bool f) ∧ But [S] W w' ∧ SQ w' S (0, rest) := by
  refine (src31 _ W h).mono ?_
  intro e w' hg
  obtain ⟨h1, h2, u, rfl, rfl⟩ := hg.put (flagT_put f rest)
  exact ⟨rfl, h1, h2⟩
theorem back4 (l : List Int) (hl : l.length ≤ 50) (hi : ∀ x ∈ l, I64 x) (hr : rest.length ≤ 80000) (h : SQ W S (0, intsL l ++ rest)) :
    Calls Try.prog 33 #[.pointer (some ⟨S, 0, none⟩), .int .i64 50, .int .i64 (-9223372036854775808), .int .i64 9223372036854775807] W fun e w' => (∃ v, e = .returned v ∧ RowI w' W.heap.size v l) ∧ But [S] W w' ∧ SQ w' S (0, rest) := by
  have h1 := numL_len l.length
  have h2 := intsF_len l
  refine (src33 _ W h 50 (-9223372036854775808) 9223372036854775807 (by unfold intsL; simp; omega) (by omega)).mono ?_
  intro e w' hg
  obtain ⟨h1, h2, u, rfl, hu⟩ := hg.put (intsT_put rest (by omega) (by omega) (fun x hx => ⟨hi x hx, hi x hx⟩))
  exact ⟨⟨u, rfl, hu⟩, h1, h2⟩
theorem back5 (c : UInt8) (h : SQ W S (0, [c] ++ rest)) :
    Calls Try.prog 34 #[.pointer (some ⟨S, 0, none⟩)] W fun e w' => e = .returned (.int .u8 (c.toNat : Int)) ∧ But [S] W w' ∧ SQ w' S (0, rest) := by
  refine (src34 _ W h).mono ?_
  intro e w' hg
  obtain ⟨h1, h2, u, rfl, rfl⟩ := hg.put (byteT_put c rest)
  exact ⟨rfl, h1, h2⟩
end
end Go.Proofs.Ytdndpncbagjidaa
