/- A variadic method that asks steps, each a closure: the first that tells an error. -/
import Derived.Test.YtimoleijdfoahaaLoG
namespace Go.Proofs.Ytimoleijdfoahaa.Lq
open Go Go.RowKit Go.Proofs.Ytimoleijdfoahaa.Bs

/-- A step: a closure that tells e and changes nothing, from w on. -/
def Stp (w : World) (f : Value) (e : Int) : Prop := ∃ F caps, f = .func (.func F) #[] caps ∧ (∀ W, Sem.run Try.prog (callFunc F caps) W = .ok (.enter F caps) W) ∧ ∀ W, But [] w W → Calls Try.prog F caps W fun r W' => r = .returned (.int .i64 e) ∧ But [] W W'
/-- A function with a body is entered. -/
theorem run_enter {f : FuncId} {fn : Func} (hf : Try.prog.funcs[f]? = some fn) (hn : (fn.name == "runtime.NumGoroutine") = false) (hb : fn.body.isNone = false) (args : Array Value) (w : World) : Sem.run Try.prog (callFunc f args) w = .ok (.enter f args) w := by
  have h1 : fn.name ≠ "runtime.NumGoroutine" := by simpa using hn
  simp only [Option.isNone_eq_false_iff, Option.isSome_iff_exists] at hb
  obtain ⟨c, hb⟩ := hb
  simp [callFunc, hf, h1, hb]
/-- The first error; 0. -/
def firstE : List (Value × Int) → Int
  | [] => 0
  | p :: r => if p.2 = 0 then firstE r else p.2
theorem Stp.later {w w' : World} {f : Value} {e : Int} (h : Stp w f e) (hb : But [] w w') : Stp w' f e := by
  obtain ⟨F, caps, h1, h2, h3⟩ := h
  exact ⟨F, caps, h1, h2, fun W hW => h3 W (hb.trans hW)⟩
theorem firstE_drop {fs : List (Value × Int)} {j : Nat} {p : Value × Int} (h : fs[j]? = some p) : firstE (fs.drop j) = if p.2 = 0 then firstE (fs.drop (j + 1)) else p.2 := by
  obtain ⟨hl, rfl⟩ := List.getElem?_eq_some_iff.1 h
  rw [List.drop_eq_getElem_cons hl]
  rfl
set_option maxRecDepth 100000 in
set_option maxHeartbeats 2000000 in
theorem ask_any {w : World} {B G c : Nat} (fs : List (Value × Int)) (hl : fs.length ≤ 100) (M : ∀ W, But [] w W → Calls Try.prog 50 #[.pointer (some ⟨B, 0, none⟩)] W fun e w' => e = .returned (.bool true) ∧ w' = W)
    (hc : ∀ (j : Nat) (p : Value × Int), fs[j]? = some p → w.cell? ⟨G, j, none⟩ = some p.1 ) (hs : ∀ (j : Nat) (p : Value × Int), fs[j]? = some p → (∀ (i : Nat) (q : Value × Int), i < j → fs[i]? = some q → q.2 = 0) → Stp w p.1 p.2) :
    Calls Try.prog 34 #[.pointer (some ⟨B, 0, none⟩), .slice (some ⟨G, 0, none⟩) fs.length c] w fun e w' => e = .returned (.int .i64 (firstE fs)) ∧ But [] w w' := by
  have hM := M w (But.refl [] w)
  have h0 : firstE (fs.drop 0) = firstE fs := by rw [List.drop_zero]
  go_enter Try.func34, Try.ntmps34
  go_wp2_with (first | (go_at_call 50; (with_reducible refine hM.mono ?_); rintro e w1 ⟨rfl, hw⟩; subst w1))
  go_loopw [13, 6, 7] (fun v _ _ wr => ∃ j : Nat, j ≤ fs.length ∧ v = .int .i64 j ∧ But [] w wr ∧ firstE (fs.drop j) = firstE fs ∧ ∀ (i : Nat) (q : Value × Int), i < j → fs[i]? = some q → q.2 = 0) (fun v _ _ _ => 100 - (intOf v).toNat)
  case atStart => exact ⟨0, by omega, rfl, But.refl _ _, h0, fun i q hi => absurd hi (by omega)⟩
  case round =>
    clear h0 hM
    obtain ⟨j, hj, rfl, hB, hE, hZ⟩ := hrel
    by_cases hlt : j < fs.length
    · have hlt' : (j : Int) < (fs.length : Int) := by omega
      have hp := List.getElem?_eq_getElem hlt
      obtain ⟨F, caps, hf, HR, hS⟩ := hs j _ hp hZ
      have c0 := hc j _ hp
      rw [firstE_drop hp] at hE
      have c0' := hB.cell c0
      have S := hS _ hB
      replace HR := HR wr
      rw [hf] at c0'
      have hZ' : fs[j].2 = 0 → ∀ (i : Nat) (q : Value × Int), i < j + 1 → fs[i]? = some q → q.2 = 0 := fun e0 i q hi hq => by
        by_cases h : i < j
        · exact hZ i q h hq
        · obtain rfl : i = j := by omega
          rw [hp] at hq
          rw [← Option.some.inj hq]
          exact e0
      clear hZ hs hc
      generalize fs[j].2 = e at *
      by_cases he : e = 0
      · rw [if_pos he] at hE
        rw [he] at S
        replace hZ' := hZ' he
        clear hS he hp hf
        go_wp2_with (first | ((with_reducible refine S.mono ?_); rintro e w3 ⟨rfl, b3⟩))
        go_roundw
        case rel => exact ⟨j + 1, by omega, by simp, hB.trans b3, hE, hZ'⟩
        case measure =>
          simp [intOf]
          omega
      · rw [if_neg he] at hE
        have he' : (e != 0) = true := by simpa using he
        have HE : Hid (e = firstE fs) := hE
        clear hS hp hf hE hZ'
        go_wp2_with (first | ((with_reducible refine S.mono ?_); rintro e w3 ⟨rfl, b3⟩))
        go_ret
        exact ⟨by rw [← HE.out]; rfl, hB.trans b3⟩
    · have hge : ¬ (j : Int) < (fs.length : Int) := by omega
      rw [List.drop_eq_nil_of_le (by omega)] at hE
      have HE : Hid (firstE fs = 0) := hE.symm
      go_wp2_with fail
      go_ret
      exact ⟨by rw [HE.out]; rfl, hB⟩
end Go.Proofs.Ytimoleijdfoahaa.Lq
