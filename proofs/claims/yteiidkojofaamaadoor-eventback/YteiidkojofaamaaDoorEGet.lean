/- Numbers that are got: the program's getNums, and the closure that gets an event's numbers from a source. -/
import Derived.Test.YteiidkojofaamaaDoorERd
import Derived.Test.YteiidkojofaamaaDoorKGood
import Derived.Test.YteiidkojofaamaaDoorCHoldT
import Derived.Deep.CutRange
namespace Go.Proofs.YteiidkojofaamaaDoor
open Go Go.RowKit

/-- The greatest that is got. -/
def MX : Nat := 18446744073709551615
theorem evA_set (e : Ev) {k : Nat} (h : k < 15) (v : Int) : (evA e).setIfInBounds k (.int .i64 v) = evA (eset e k v) := by
  rcases (show k = 0 ∨ k = 1 ∨ k = 2 ∨ k = 3 ∨ k = 4 ∨ k = 5 ∨ k = 6 ∨ k = 7 ∨ k = 8 ∨ k = 9 ∨ k = 10 ∨ k = 11 ∨ k = 12 ∨ k = 13 ∨ k = 14 by omega) with rfl | rfl | rfl | rfl | rfl | rfl | rfl | rfl | rfl | rfl | rfl | rfl | rfl | rfl | rfl <;> rfl
theorem evA_some (e : Ev) {k : Nat} (h : k < 15) : ∃ v : Int, (evA e)[k]? = some (.int .i64 v) := by
  rcases (show k = 0 ∨ k = 1 ∨ k = 2 ∨ k = 3 ∨ k = 4 ∨ k = 5 ∨ k = 6 ∨ k = 7 ∨ k = 8 ∨ k = 9 ∨ k = 10 ∨ k = 11 ∨ k = 12 ∨ k = 13 ∨ k = 14 by omega) with rfl | rfl | rfl | rfl | rfl | rfl | rfl | rfl | rfl | rfl | rfl | rfl | rfl | rfl | rfl <;> exact ⟨_, rfl⟩
/-- What is kept while an event's numbers are got: the event, the source, the box that holds its pointer, the table. -/
structure GS (W : World) (E S P : Nat) (e : Ev) (st : St) : Prop where
  ev : Cel W E (evA e) 26
  src : SQ W S st
  bx : Cel W P #[.pointer (some ⟨S, 0, none⟩)] 70
  tab : Tab W
  ltE : S < E
  ltP : S < P
  ne : P ≠ E
  pos : 0 < S
section
variable {W W' : World} {E S P : Nat} {e : Ev} {st : St}
theorem GS.below (h : GS W E S P e st) (hb : Below W.heap.size W W') : GS W' E S P e st := ⟨h.ev.below hb, h.src.keep (But.of_below hb), h.bx.below hb, h.tab.on hb, h.ltE, h.ltP, h.ne, h.pos⟩
/-- The source went on. -/
theorem GS.got {st' : St} (h : GS W E S P e st) (hb : But [S] W W') (hs : SQ W' S st') : GS W' E S P e st' :=
  ⟨h.ev.but hb (by have := h.ltE; simp; omega), hs, h.bx.but hb (by have := h.ltP; simp; omega), h.tab.but hb (by have := h.pos; simp; omega), h.ltE, h.ltP, h.ne, h.pos⟩
/-- A number is stored. -/
theorem GS.set (h : GS W E S P e st) {k : Nat} (hk : k < 15) (v : Int) : GS (W.setCell ⟨E, k, none⟩ (.int .i64 v)) E S P (eset e k v) st ∧ But [E] W (W.setCell ⟨E, k, none⟩ (.int .i64 v)) := by
  have hb : But [E] W (W.setCell ⟨E, k, none⟩ (.int .i64 v)) := (But.refl [E] W).set (by simp) _
  refine ⟨⟨?_, h.src.but hb (by have := h.ltE; simp; omega), h.bx.but hb (by have := h.ne; simp; omega), h.tab.but hb (by have := h.ltE; have := h.pos; simp; omega), h.ltE, h.ltP, h.ne, h.pos⟩, hb⟩
  rw [← evA_set e hk]
  exact h.ev.set _
end
/-- Pointers to numbers of an event. -/
def PtE (w : World) (L E : Nat) (ks : List Nat) : Prop := ∀ j k, ks[j]? = some k → w.cell? ⟨L, j, none⟩ = some (.pointer (some ⟨E, k, none⟩))

set_option maxHeartbeats 1000000 in
theorem getn_any {w : World} {E S P : Nat} {e : Ev} {st : St} (h : GS w E S P e st) {L c : Nat} {ks : List Nat} (hp : PtE w L E ks) (hL : L ≠ S ∧ L ≠ E) (hk : ∀ k ∈ ks, k < 15) (hn : ks.length ≤ 100) :
    Calls Tryd.prog 67 #[.pointer (some ⟨S, 0, none⟩), .slice (some ⟨L, 0, none⟩) ks.length c] w fun r w' => r = .returned (.tuple #[]) ∧ GS w' E S P (fillN MX ks e st).1 (fillN MX ks e st).2 ∧ But [S, E] w w' := by
  obtain ⟨m, hm⟩ : ∃ m, Hid (ks.length = m) := ⟨_, rfl⟩
  rw [hm.out]
  have hm' : m ≤ 100 := by rw [← hm.out]; exact hn
  clear hn
  have H0 := Hid.mk h
  clear h
  go_enter Tryd.func67, Tryd.ntmps67
  go_wp2_with fail
  go_loopw [8, 5] (fun v8 _ wr => ∃ j : Nat, j ≤ m ∧ v8 = .int .i64 j ∧ GS wr E S P (fillN MX (ks.take j) e st).1 (fillN MX (ks.take j) e st).2 ∧ But [S, E] w wr) (fun v8 _ _ => 100 - (intOf v8).toNat)
  case atStart => exact ⟨0, Nat.zero_le _, rfl, H0.out, But.refl _ _⟩
  case round =>
    obtain ⟨j, hj, rfl, g, hb⟩ := hrel
    by_cases hlt : j < m
    · have hjn : j < ks.length := by rw [hm.out]; exact hlt
      have hg : ks[j]? = some ks[j] := List.getElem?_eq_getElem hjn
      have hk15 := hk _ (List.mem_of_getElem? hg)
      have hpc := hb.cell' (hp j _ hg) (by simp; omega)
      have hst := fillN_succ MX hg e st
      generalize ks[j] = k at *
      have hlt' : (j : Int) < (m : Int) := by omega
      have HST := Hid.mk hst
      generalize hq : fillN MX (ks.take j) e st = q at *
      obtain ⟨e1, s1⟩ := q
      have hbd := gN_le MX s1
      have HN : Calls Tryd.prog 51 #[.pointer (some ⟨S, 0, none⟩), .int .u64 18446744073709551615] wr fun r w' => GotS S wr (fun (n : Nat) v _ => v = .int .u64 (n : Int)) (numT MX) 0 s1 r w' := src28 s1 wr g.src MX
      have hn0 : (0 : Int) ≤ ((getS (numT MX) 0 s1).1 : Int) := hbd.1
      have hn1 : ((getS (numT MX) 0 s1).1 : Int) ≤ 18446744073709551615 := hbd.2
      have G := Hid.mk g
      have HGN : Hid ((gC MX s1).1 = min ((getS (numT MX) 0 s1).1 : Int) 9223372036854775807 ∧ (gC MX s1).2 = (getS (numT MX) 0 s1).2) := ⟨rfl, rfl⟩
      obtain ⟨n, hnn⟩ : ∃ n : Nat, Hid ((getS (numT MX) 0 s1).1 = n) := ⟨_, rfl⟩
      rw [hnn.out] at hn0 hn1 HGN
      obtain ⟨i, hi⟩ : ∃ i : Int, min (n : Int) 9223372036854775807 = i := ⟨_, rfl⟩
      rw [hi] at HGN
      have hi0 : (0 : Int) ≤ i := by omega
      have hi1 : i ≤ 9223372036854775807 := by omega
      clear hst hq hbd g hjn hg
      go_wp2_with (go_at_call 51; (with_reducible refine HN.mono ?_); rintro r w1 ⟨hb1, hs1, v1, rfl, hv1⟩; rw [hnn.out] at hv1; subst hv1; have G1 := G.out.got hb1 hs1; obtain ⟨vo, hvo⟩ := evA_some e1 hk15; have hc1 := G1.ev.cell hvo; have hf1 := G1.ev.fz k)
      go_roundw
      case rel =>
        rw [show (if (9223372036854775807 : Int) < (n : Int) then (9223372036854775807 : Int) else (n : Int)) = i by split <;> omega]
        have G2 := G1.set hk15 i
        refine ⟨j + 1, by omega, by simp, ?_, (hb.trans (hb1.mono (T := [S, E]) (by simp))).trans (G2.2.mono (T := [S, E]) (by simp))⟩
        rw [HST.out, HGN.out.1, HGN.out.2]
        exact G2.1
      case measure =>
        simp [intOf]
        omega
    · obtain rfl : j = m := by omega
      rw [show ks.take j = ks from List.take_of_length_le (by rw [hm.out]; exact Nat.le_refl _)] at g
      have G := Hid.mk g
      clear g
      go_wp2_with fail
      go_end0
      exact ⟨rfl, G.out, hb⟩
/-- The closure. -/
theorem get1_any {w : World} {E S P : Nat} {e : Ev} {st : St} (h : GS w E S P e st) {L c : Nat} {ks : List Nat} (hp : PtE w L E ks) (hL : L ≠ S ∧ L ≠ E) (hk : ∀ k ∈ ks, k < 15) (hn : ks.length ≤ 100) :
    Calls Tryd.prog 66 #[.slice (some ⟨L, 0, none⟩) ks.length c, .pointer (some ⟨P, 0, none⟩)] w fun r w' => r = .returned (.tuple #[]) ∧ GS w' E S P (fillN MX ks e st).1 (fillN MX ks e st).2 ∧ But [S, E] w w' := by
  have HG := getn_any (c := c) h hp hL hk hn
  have hcell := h.bx.cell (j := 0) rfl
  generalize ks.length = m at *
  clear h hp hL hk hn
  go_enter Tryd.func66, Tryd.ntmps66
  go_wp2_with (go_at_call 67; (with_reducible refine HG.mono ?_); rintro r w1 ⟨rfl, g1, b1⟩)
  go_end0
  exact ⟨rfl, g1, b1⟩
section
variable {W : World} {E S P : Nat} {e : Ev} {st : St}
theorem get_one (h : GS W E S P e st) {i : Nat} (hi : i < 15) :
    Calls Tryd.prog 66 #[.slice (some ⟨W.heap.size, 0, none⟩) 1 1, .pointer (some ⟨P, 0, none⟩)] (W.alloc (.cells #[.pointer (some ⟨E, i, none⟩)] 83)) fun r w' => r = .returned (.tuple #[]) ∧ GS w' E S P (fillN MX [i] e st).1 (fillN MX [i] e st).2 ∧ But [S, E] W w' := by
  have hb := (Below.refl _ W).alloc (Nat.le_refl _) (.cells #[.pointer (some ⟨E, i, none⟩)] 83)
  have h1 := h.ev.lt
  have h2 := h.src.lt
  have := get1_any (c := 1) (ks := [i]) (L := W.heap.size) (h.below hb) (fun j k hj => by
    have hj0 : j = 0 := by have := (List.getElem?_eq_some_iff.1 hj).1; simpa using this
    subst hj0
    simp at hj
    subst hj
    simp [go_sem]) ⟨by omega, by omega⟩ (fun k hk => by simp at hk; omega) (by simp)
  refine this.mono ?_
  rintro r w' ⟨rfl, g, b⟩
  exact ⟨rfl, g, (But.of_below hb).trans b⟩
theorem get_three (h : GS W E S P e st) {i j k : Nat} (hi : i < 15) (hj : j < 15) (hk : k < 15) :
    Calls Tryd.prog 66 #[.slice (some ⟨W.heap.size, 0, none⟩) 3 3, .pointer (some ⟨P, 0, none⟩)] (W.alloc (.cells #[.pointer (some ⟨E, i, none⟩), .pointer (some ⟨E, j, none⟩), .pointer (some ⟨E, k, none⟩)] 83)) fun r w' => r = .returned (.tuple #[]) ∧ GS w' E S P (fillN MX [i, j, k] e st).1 (fillN MX [i, j, k] e st).2 ∧ But [S, E] W w' := by
  have hb := (Below.refl _ W).alloc (Nat.le_refl _) (.cells #[.pointer (some ⟨E, i, none⟩), .pointer (some ⟨E, j, none⟩), .pointer (some ⟨E, k, none⟩)] 83)
  have h1 := h.ev.lt
  have h2 := h.src.lt
  have := get1_any (c := 3) (ks := [i, j, k]) (L := W.heap.size) (h.below hb) (fun x y hx => by
    have hx3 : x < 3 := by have := (List.getElem?_eq_some_iff.1 hx).1; simpa using this
    rcases (show x = 0 ∨ x = 1 ∨ x = 2 by omega) with rfl | rfl | rfl
    · simp at hx; subst hx; simp [go_sem]
    · simp at hx; subst hx; simp [go_sem]
    · simp at hx; subst hx; simp [go_sem]) ⟨by omega, by omega⟩ (fun y hy => by simp at hy; omega) (by simp)
  refine this.mono ?_
  rintro r w' ⟨rfl, g, b⟩
  exact ⟨rfl, g, (But.of_below hb).trans b⟩
end
end Go.Proofs.YteiidkojofaamaaDoor
