/- Len, All, Copy, Take of a box. -/
import Derived.Test.YtcffmdimfmpheaaDoorMlAsk
import Derived.Test.YtcffmdimfmpheaaDoorEBat0
namespace Go.Proofs.YtcffmdimfmpheaaDoor
open Go Go.RowKit

theorem eql_sL (a : Addr) (n c : Nat) (W : World) : Sem.run Tryd.prog (binOp .eql 56 (.slice (some a) n c) (.slice none 0 0)) W = .ok (.bool false) W := by kernel_rfl
theorem eql_nL (n c : Nat) (W : World) : Sem.run Tryd.prog (binOp .eql 56 (.slice none n c) (.slice none 0 0)) W = .ok (.bool true) W := by kernel_rfl
set_option maxHeartbeats 400000 in
theorem lclone_any {w : World} {a : Option Addr} {xs : List Ev} (c : Nat) (h : EV w a xs) (hl : xs.length ≤ 90000) :
    Calls Tryd.prog 30 #[.slice a xs.length c] w fun e w' => ∃ v, e = .returned v ∧ OwE w' w.heap.size v xs ∧ Below w.heap.size w w' := by
  cases a with
  | none =>
    have e : xs = [] := by
      cases xs with
      | nil => rfl
      | cons x xs =>
        obtain ⟨b, o, e, _⟩ := h 0 (by simp)
        cases e
    subst e
    have eq := eql_nL 0 c
    go_enter Tryd.func30, Tryd.ntmps30
    go_wp2_with fail
    go_ret
    exact ⟨_, rfl, OwE.nil _ _, Below.refl _ _⟩
  | some ad =>
    have eq := eql_sL ad xs.length c
    have hn := owE_none w
    have hb0 : Below w.heap.size w (w.alloc (.cells #[] 33)) := (Below.refl _ w).alloc (Nat.le_refl _) _
    have h' := h.below hb0
    go_enter Tryd.func30, Tryd.ntmps30
    go_wp2_with (at_builtin; refine wpList_appL rfl _ _ rfl w.heap.size _ [] rfl hn _ _ _ xs rfl rfl h' (by simp; omega) (by simp) ?_; intro v3 w3 ho3 hg3 hs3)
    go_ret
    exact ⟨_, rfl, ho3, below_grown hb0 hg3 hn (by simp)⟩

section
variable {w : World} {B N : Nat} {T : List Nat} {xs : List Ev}
theorem len_any (h : BQ w B T N xs) :
    Calls Tryd.prog 12 #[.pointer (some ⟨B, 0, none⟩)] w fun e w' => e = .returned (.int .i64 xs.length) ∧ w' = w := by
  obtain ⟨v, rfl, hm, hl⟩ := h
  have MA := made_any hm
  obtain ⟨sl, c2, rfl, -, -, -⟩ := hm.shape
  have c0 := hm.c0
  go_enter Tryd.func12, Tryd.ntmps12
  go_wp2_with (go_at_call 29; (with_reducible refine MA.mono ?_); rintro e w' ⟨rfl, hw⟩; subst w')
  go_ret
  exact ⟨rfl, rfl⟩
theorem all_any (h : BQ w B T N xs) :
    Calls Tryd.prog 14 #[.pointer (some ⟨B, 0, none⟩)] w fun e w' => ∃ v, e = .returned v ∧ OwE w' w.heap.size v xs ∧ Below w.heap.size w w' := by
  have hln := h.len
  obtain ⟨v, rfl, hm, hl⟩ := h
  have MA := made_any hm
  obtain ⟨sl, c2, rfl, he, -, -⟩ := hm.shape
  have c0 := hm.c0
  have CL := lclone_any c2 he (by omega)
  go_enter Tryd.func14, Tryd.ntmps14
  go_wp2_with (first | (go_at_call 29; (with_reducible refine MA.mono ?_); rintro e w' ⟨rfl, hw⟩; subst w') | (go_at_call 30; (with_reducible refine CL.mono ?_); rintro e w1 ⟨v1, rfl, ho1, b1⟩))
  go_ret
  exact ⟨_, rfl, ho1, b1⟩
theorem len_no {p : Option Addr} (h : UM w p) :
    Calls Tryd.prog 12 #[.pointer p] w fun e w' => e = .returned (.int .i64 0) ∧ w' = w := by
  have MA := made_no h
  go_enter Tryd.func12, Tryd.ntmps12
  go_wp2_with (go_at_call 29; (with_reducible refine MA.mono ?_); rintro e w' ⟨rfl, hw⟩; subst w')
  go_ret
  exact ⟨rfl, rfl⟩
theorem all_no {p : Option Addr} (h : UM w p) :
    Calls Tryd.prog 14 #[.pointer p] w fun e w' => e = .returned (.slice none 0 0) ∧ w' = w := by
  have MA := made_no h
  go_enter Tryd.func14, Tryd.ntmps14
  go_wp2_with (go_at_call 29; (with_reducible refine MA.mono ?_); rintro e w' ⟨rfl, hw⟩; subst w')
  go_ret
  exact ⟨rfl, rfl⟩
theorem take_no {p : Option Addr} (h : UM w p) (m : Int) :
    Calls Tryd.prog 20 #[.pointer p, .int .i64 m] w fun e w' => e = .returned (.slice none 0 0) ∧ w' = w := by
  have MA := made_no h
  go_enter Tryd.func20, Tryd.ntmps20
  go_wp2_with (go_at_call 29; (with_reducible refine MA.mono ?_); rintro e w' ⟨rfl, hw⟩; subst w')
  go_ret
  exact ⟨rfl, rfl⟩
theorem copy_no {p : Option Addr} (h : UM w p) :
    Calls Tryd.prog 22 #[.pointer p] w fun e w' => e = .returned (.pointer none) ∧ w' = w := by
  have MA := made_no h
  go_enter Tryd.func22, Tryd.ntmps22
  go_wp2_with (go_at_call 29; (with_reducible refine MA.mono ?_); rintro e w' ⟨rfl, hw⟩; subst w')
  go_ret
  exact ⟨rfl, rfl⟩
theorem count_no {p : Option Addr} (h : UM w p) (m : Int) :
    Calls Tryd.prog 15 #[.pointer p, .int .i64 m] w fun e w' => e = .returned (.int .i64 0) ∧ w' = w := by
  have MA := made_no h
  go_enter Tryd.func15, Tryd.ntmps15
  go_wp2_with (go_at_call 29; (with_reducible refine MA.mono ?_); rintro e w' ⟨rfl, hw⟩; subst w')
  go_ret
  exact ⟨rfl, rfl⟩
theorem drop_no {p : Option Addr} (h : UM w p) (m : Int) :
    Calls Tryd.prog 24 #[.pointer p, .int .i64 m] w fun e w' => e = .returned (.int .i64 0) ∧ w' = w := by
  have MA := made_no h
  go_enter Tryd.func24, Tryd.ntmps24
  go_wp2_with (go_at_call 29; (with_reducible refine MA.mono ?_); rintro e w' ⟨rfl, hw⟩; subst w')
  go_ret
  exact ⟨rfl, rfl⟩
theorem undo_no {p : Option Addr} (h : UM w p) (v : Value) :
    Calls Tryd.prog 21 #[.pointer p, v] w fun e w' => e = .returned (.int .i64 1) ∧ w' = w := by
  have MA := ask_no h
  go_enter Tryd.func21, Tryd.ntmps21
  go_wp2_with (go_at_call 35; (with_reducible refine (MA _).mono ?_); rintro e w' ⟨rfl, hw⟩; subst w')
  go_ret
  exact ⟨rfl, rfl⟩

/-- What Batch makes of any row. -/
theorem batch_any {w : World} {a : Option Addr} {xs : List Ev} (c : Nat) (m : Int) (hx : EV w a xs) (hn : xs.length ≤ 90000) (hc : xs.length ≤ c) :
    Calls Tryd.prog 36 #[.slice a xs.length c, .int .i64 m] w fun e w' => ∃ v1 v2, e = .returned (.tuple #[v1, v2]) ∧ OwE w' w.heap.size v1 (tkT m xs) ∧ OwE w' w.heap.size v2 (tkX m xs) ∧ Below w.heap.size w w' := by
  by_cases h0 : 0 < xs.length
  · obtain ⟨b, o, rfl, _⟩ := hx 0 h0
    refine (batch_some c m hx hn hc h0).mono ?_
    rintro e w1 ⟨k, v1, v2, rfl, hk, hk0, o1, o2, b1⟩
    have e1 := tk_of hk (fun _ => hk0)
    rw [e1] at o1 o2
    exact ⟨v1, v2, rfl, o1, o2, b1⟩
  · have e0 : xs = [] := List.eq_nil_of_length_eq_zero (by omega)
    subst e0
    refine (batch_nil w a c m).mono ?_
    rintro e w1 ⟨v1, v2, rfl, o1, o2, b1⟩
    refine ⟨v1, v2, rfl, ?_, ?_, b1⟩
    · simpa [tkT] using o1
    · simpa [tkX] using o2
set_option maxHeartbeats 1000000 in
theorem take_any (h : BQ w B T N xs) (m : Int) :
    Calls Tryd.prog 20 #[.pointer (some ⟨B, 0, none⟩), .int .i64 m] w fun e w' => ∃ v T', e = .returned v ∧ OwE w' w.heap.size v (tkT m xs) ∧ BQ w' B T' N (tkX m xs) ∧ Step T w T' w' := by
  have hln := h.len
  have hxl := tkX_len m xs
  obtain ⟨v, rfl, hm, hl⟩ := h
  have MA := made_any hm
  obtain ⟨sl, c2, rfl, he, hc, -⟩ := hm.shape
  have c0 := hm.c0
  have hlB := hm.lt (x := B) bks_B
  have HB := batch_any c2 m he (by omega) hc
  generalize tkT m xs = ys at *
  generalize tkX m xs = zs at *
  go_enter Tryd.func20, Tryd.ntmps20
  go_wp2_with (first | (go_at_call 29; (with_reducible refine MA.mono ?_); rintro e w' ⟨rfl, hw⟩; subst w') | (go_at_call 36; (with_reducible refine HB.mono ?_); rintro e w1 ⟨v1, v2, rfl, ho1, ho2, b1⟩; obtain ⟨k5, s5, f0, f1⟩ := hm.fresh b1 ho2; obtain ⟨a2, c3, rfl⟩ := ho2.at_ rfl))
  go_ret
  exact ⟨_, _, rfl, ho1.put (fun k hk => Below.heap_setCell w1 ⟨B, 0, none⟩ _ k (fun e => by have := (ho1.lt hk).1; simp at e; omega)), ⟨_, rfl, k5, by omega⟩, s5⟩
end
end Go.Proofs.YtcffmdimfmpheaaDoor
