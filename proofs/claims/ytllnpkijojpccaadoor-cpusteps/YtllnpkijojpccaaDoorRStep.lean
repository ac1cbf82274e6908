/- The reference's Step. -/
import Derived.Test.YtllnpkijojpccaaDoorRStA
import Derived.Test.YtllnpkijojpccaaDoorRStB
import Derived.Test.YtllnpkijojpccaaDoorRStC
import Derived.Test.YtllnpkijojpccaaDoorRStD
import Derived.Test.YtllnpkijojpccaaDoorRStE
import Derived.Test.YtllnpkijojpccaaDoorRStF
import Derived.Test.YtllnpkijojpccaaDoorRStG
import Derived.Test.YtllnpkijojpccaaDoorRStH
namespace Go.Proofs.YtllnpkijojpccaaDoor
open Go Go.RowKit Go.Shelf

theorem rstep_in {w : World} {b o n cap k : Nat} {pg dp : Int} {rs : Nat → Int} (x : Ins) (hk : k < n) (hn : n ≤ 64) (hq : At4 w b (o + k * 4) x) (hd : -9223372036854775808 ≤ dp ∧ dp ≤ 9223372036854775807)
    (HW : ∀ W : World, Below w.heap.size w W → Calls Tryd.prog 19 #[.slice (some ⟨b, o, none⟩) n cap] W fun e w' => e = .returned (.bool true) ∧ Below W.heap.size W w') :
    Calls Tryd.prog 11 #[.slice (some ⟨b, o, none⟩) n cap, .agg (cxA ⟨pg, (k : Int), rs, dp⟩)] w fun e w' => e = .returned (.tuple #[.agg (cxA (doC x ⟨pg, (k : Int) + 1, rs, dp⟩).1), .agg (insC (doC x ⟨pg, (k : Int) + 1, rs, dp⟩).2)]) ∧ Below w.heap.size w w' := by
  obtain ⟨op, xa, xb, xc⟩ := x
  have G : ∀ (i : Int) (W : World), Calls Tryd.prog 23 #[.agg (cxA ⟨pg, (k : Int), rs, dp⟩), .int .i64 i] W fun e w' => e = .returned (.int .i64 (getR ⟨pg, (k : Int) + 1, rs, dp⟩ i)) ∧ Below W.heap.size W w' := fun i W => rget_any ⟨pg, (k : Int), rs, dp⟩ i W
  have P := fun (i v : Int) (W : World) => rput_any ⟨pg, (k : Int) + 1, rs, dp⟩ i v W
  have Gd := fun (d : Cx) (i : Int) (W : World) => rget_any d i W
  have Hp : (⟨pg, (k : Int) + 1, rs, dp⟩ : Cx).dp = dp := rfl
  rcases op_cases op with e | e | e | e | e | e | e | e | e | e | e | e | e | e
  · subst e; rw [doC_0 _ rfl]; exact rs_0 hk hn hq HW
  · subst e; rw [doC_1 _ rfl]; exact rs_1 hk hn hq HW (P xa xb)
  · subst e; rw [doC_2 _ rfl]; exact rs_2 hk hn hq HW (G xa) (G xb) (P xa _)
  · subst e; rw [doC_3 _ rfl]; exact rs_3 hk hn hq HW (G xa) (G xb) (P xa _)
  · subst e; rw [doC_4 _ rfl]; exact rs_4 hk hn hq HW (G xb) (P xa _)
  · subst e
    rw [doC_5 _ rfl]
    dsimp only
    by_cases h : getR ⟨pg, (k : Int) + 1, rs, dp⟩ xb < getR ⟨pg, (k : Int) + 1, rs, dp⟩ xc
    · rw [decide_eq_true h]
      exact rs_5y h hk hn hq HW (G xb) (G xc) (P xa 1)
    · rw [decide_eq_false h]
      exact rs_5n h hk hn hq HW (G xb) (G xc) (P xa 0)
  · subst e; rw [doC_6 _ rfl]; exact rs_6 hk hn hq HW
  · subst e
    rw [doC_7 _ rfl]
    dsimp only
    by_cases h : getR ⟨pg, (k : Int) + 1, rs, dp⟩ xa = 0
    · have G0 := G xa
      rw [h] at G0 ⊢
      exact rs_7y hk hn hq HW G0
    · rw [show (getR ⟨pg, (k : Int) + 1, rs, dp⟩ xa == 0) = false by simpa using h]
      exact rs_7n h hk hn hq HW (G xa)
  · subst e
    rw [doC_8 _ rfl]
    dsimp only
    have D := Gd (putR ⟨pg, (k : Int) + 1, rs, dp⟩ xa (wrap64 (getR ⟨pg, (k : Int) + 1, rs, dp⟩ xa - 1))) xa
    have P0 := P xa (wrap64 (getR ⟨pg, (k : Int) + 1, rs, dp⟩ xa - 1))
    generalize putR ⟨pg, (k : Int) + 1, rs, dp⟩ xa (wrap64 (getR ⟨pg, (k : Int) + 1, rs, dp⟩ xa - 1)) = d at *
    by_cases h : getR d xa = 0
    · rw [h] at D ⊢
      exact rs_8y hk hn hq HW (G xa) P0 D
    · rw [show (getR d xa != 0) = true by simpa using h]
      exact rs_8n h hk hn hq HW (G xa) P0 D
  · subst e
    rw [doC_9 _ rfl, Hp, deep_in hd]
    by_cases h : dp < 8
    · rw [if_pos h]; exact rs_9y h hd.1 hk hn hq HW
    · rw [if_neg h]; exact rs_9n h hk hn hq HW
  · subst e
    rw [doC_10 _ rfl, Hp, leave_in hd]
    by_cases h : 0 < dp
    · rw [if_pos h]; exact rs_10y h hd.2 hk hn hq HW
    · rw [if_neg h]; exact rs_10n h hk hn hq HW
  · subst e; rw [doC_call _ (.inl rfl)]; exact rs_11 hk hn hq HW (G xa)
  · subst e; rw [doC_call _ (.inr rfl)]; exact rs_14 hk hn hq HW (G xa)
  · rw [doC_oth _ e]; exact rs_oth hk hn hq e HW
end Go.Proofs.YtllnpkijojpccaaDoor
