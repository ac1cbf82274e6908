/- The next bytes: cut, next, flag. -/
import Derived.Test.YteiidkojofaamaaDoorCMem
namespace Go.Proofs.YteiidkojofaamaaDoor
open Go.RowKit

set_option maxHeartbeats 400000 in
theorem cut_short (B n : Nat) (bs : List UInt8) (w : World) (h : SR w B 0 bs) (hn : bs.length < n) (hn2 : n < 2 ^ 64) :
    Calls Tryd.prog 91 #[.pointer (some ⟨B, 0, none⟩), .int .u64 (n : Int)] w fun e w' => e = .panicked [flt 9] ∧ w' = w := by
  obtain ⟨a, c, hb, hy⟩ := h
  have hm := hy.len
  have hm2 := hy.cap
  unfold maxLen at hm2
  have h1 : w.cell? ⟨B, 1, none⟩ = some (.slice a bs.length c) := by simp [World.cell?, hb]
  have k1 : (bs.length : Int) < n := by omega
  go_enter Tryd.func91, Tryd.ntmps91
  go_wp2
  exact ⟨rfl, rfl, rfl⟩

/-- What is left behind a cut. -/
theorem Byts.drop {w : World} {B c : Nat} {a : Option Addr} {bs : List UInt8} (h : Byts w B a c bs) {G o : Nat} (ha : a = some ⟨G, o, none⟩) {n : Nat} (hn : n ≤ bs.length) {a' : Option Addr} (ha' : a' = some ⟨G, o + n, none⟩ ∨ (n = c ∧ a' = some ⟨G, o, none⟩)) : Byts w B a' (c - n) (bs.drop n) := by
  subst ha
  rcases h with ⟨rfl, rfl⟩ | ⟨G', o', e, hG, hl, hm, hc⟩
  · exact .inl ⟨by omega, by simp⟩
  · cases e
    rcases ha' with rfl | ⟨h1, rfl⟩
    · refine .inr ⟨G, o + n, rfl, hG, by rw [List.length_drop]; omega, by omega, fun j b hj => ?_⟩
      rw [List.getElem?_drop] at hj
      rw [Nat.add_assoc]
      exact hc _ _ hj
    · refine .inr ⟨G, o, rfl, hG, by rw [List.length_drop]; omega, by omega, fun j b hj => ?_⟩
      rw [List.getElem?_drop, List.getElem?_eq_none (by omega)] at hj
      cases hj

theorem Byts.take {w : World} {B c : Nat} {a : Option Addr} {bs : List UInt8} (h : Byts w B a c bs) (n : Nat) : Byts w B a c (bs.take n) := by
  rcases h with ⟨ec, rfl⟩ | ⟨G, o, e, hG, hl, hm, hc⟩
  · exact .inl ⟨ec, by simp⟩
  · refine .inr ⟨G, o, e, hG, by rw [List.length_take]; omega, hm, fun j b hj => hc j b ?_⟩
    rw [List.getElem?_take] at hj
    split at hj
    · exact hj
    · cases hj

theorem SR.set {w : World} {B x : Nat} {bs : List UInt8} {a : Option Addr} {c : Nat} (hb : w.heap[B]? = some (.cells #[.bool true, .slice a bs.length c, .int .i64 (x : Int)] 88 (0, 0))) {a' : Option Addr} {c' : Nat} {t : List UInt8} (hy : Byts w B a' c' t) {l : Nat} (hl : l = t.length) :
    SR (w.setCell ⟨B, 1, none⟩ (.slice a' l c')) B x t := by
  subst hl
  refine ⟨a', c', heap_setCell_same w B 1 _ 88 _ hb, hy.but (S := [B]) ((But.refl [B] w).set (by simp) _) (by simp)⟩

theorem cut_end {w : World} {B n : Nat} {bs : List UInt8} {a : Option Addr} {c : Nat} (hb : w.heap[B]? = some (.cells #[.bool true, .slice a bs.length c, .int .i64 0] 88 (0, 0))) (hy : Byts w B a c bs) (hn : n ≤ bs.length) {a' : Option Addr} (ha : a' = a.map (fun x => x.add n) ∨ (n = c ∧ a' = a)) :
    But [B] w (w.setCell ⟨B, 1, none⟩ (.slice a' (bs.length - n) (c - n))) ∧ SR (w.setCell ⟨B, 1, none⟩ (.slice a' (bs.length - n) (c - n))) B 0 (bs.drop n) ∧ Byts (w.setCell ⟨B, 1, none⟩ (.slice a' (bs.length - n) (c - n))) B a c (bs.take n) := by
  refine ⟨(But.refl [B] w).set (by simp) _, SR.set (x := 0) hb ?_ (by simp), (hy.take n).but (S := [B]) ((But.refl [B] w).set (by simp) _) (by simp)⟩
  rcases hy with ⟨rfl, rfl⟩ | ⟨G, o, rfl, hG, hl, hm, hc⟩
  · exact .inl ⟨by omega, by simp⟩
  · refine Byts.drop (.inr ⟨G, o, rfl, hG, hl, hm, hc⟩) rfl hn ?_
    rcases ha with rfl | ⟨h1, rfl⟩
    · exact .inl (by simp [WideShapes.add_plain])
    · exact .inr ⟨h1, rfl⟩

set_option maxHeartbeats 400000 in
theorem cut_ok (B n : Nat) (bs : List UInt8) (w : World) (h : SR w B 0 bs) (hn : n ≤ bs.length) :
    Calls Tryd.prog 91 #[.pointer (some ⟨B, 0, none⟩), .int .u64 (n : Int)] w fun e w' => ∃ a c, e = .returned (.slice a n c) ∧ But [B] w w' ∧ SR w' B 0 (bs.drop n) ∧ Byts w' B a c (bs.take n) := by
  obtain ⟨a, c, hb, hy⟩ := h
  have hm := hy.len
  have hm2 := hy.cap
  unfold maxLen at hm2
  have h1 : w.cell? ⟨B, 1, none⟩ = some (.slice a bs.length c) := by simp [World.cell?, hb]
  have hf : w.frozen? ⟨B, 1, none⟩ = false := by simp [World.frozen?, hb]
  have k1 : ¬ (bs.length : Int) < n := by omega
  have k2 : (n : Int) ≤ c := by omega
  have k3 : (n : Int) ≤ bs.length := by omega
  have k4 : (c : Int) ≤ 9223372036854775807 := by omega
  have k5 : (0 : Int) ≤ n := by omega
  by_cases hcn : c = n
  · subst hcn
    have hh := cut_end hb hy hn (a' := a) (.inr ⟨rfl, rfl⟩)
    rw [Nat.sub_self, show bs.length - c = 0 by omega] at hh
    go_enter Tryd.func91, Tryd.ntmps91
    go_wp2
    go_ret
    exact ⟨_, _, rfl, hh⟩
  · go_enter Tryd.func91, Tryd.ntmps91
    go_wp2
    go_ret
    exact ⟨_, _, rfl, cut_end hb hy hn (.inl rfl)⟩

theorem get_cell {w : World} {B c : Nat} {a : Option Addr} {b : UInt8} {bs : List UInt8} (h : Byts w B a c (b :: bs)) : ∃ G o, a = some ⟨G, o, none⟩ ∧ G < B ∧ w.cell? ⟨G, o, none⟩ = some (.int .u8 (b.toNat : Int)) := by
  rcases h with ⟨_, e⟩ | ⟨G, o, e, hG, hl, hm, hc⟩
  · cases e
  · exact ⟨G, o, e, hG, hc 0 b rfl⟩

set_option maxHeartbeats 400000 in
theorem next_short (B : Nat) (w : World) (h : SR w B 0 []) :
    Calls Tryd.prog 80 #[.pointer (some ⟨B, 0, none⟩)] w fun e w' => e = .panicked [flt 9] ∧ w' = w := by
  have hc := cut_short B 1 [] w h (by simp) (by omega)
  go_enter Tryd.func80, Tryd.ntmps80
  go_wp2_with (go_at_call 91; refine hc.mono ?_; rintro e w' ⟨rfl, rfl⟩)
  exact ⟨rfl, rfl, rfl⟩

set_option maxHeartbeats 400000 in
theorem next_ok (B : Nat) (b : UInt8) (bs : List UInt8) (w : World) (h : SR w B 0 (b :: bs)) :
    Calls Tryd.prog 80 #[.pointer (some ⟨B, 0, none⟩)] w fun e w' => e = .returned (.int .u8 (b.toNat : Int)) ∧ But [B] w w' ∧ SR w' B 0 bs := by
  have hc := cut_ok B 1 (b :: bs) w h (by simp)
  go_enter Tryd.func80, Tryd.ntmps80
  go_wp2_with (go_at_call 91; refine hc.mono ?_; rintro e w' ⟨a, c, rfl, hb, hs, hy⟩; obtain ⟨G, o, rfl, hG, hx⟩ := get_cell hy)
  go_ret
  exact ⟨rfl, hb, hs⟩

end Go.Proofs.YteiidkojofaamaaDoor
