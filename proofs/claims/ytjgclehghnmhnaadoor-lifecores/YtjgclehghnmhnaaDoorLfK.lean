/- Cells of one that are stored anew. -/
import Derived.Test.YtjgclehghnmhnaaDoorLfC
import Derived.Test.YtjgclehghnmhnaaDoorCHoldT
namespace Go.Proofs.YtjgclehghnmhnaaDoor
open Go Go.RowKit

theorem Cel.cx {W : World} {b : Nat} {t : TypeId} {a0 a1 a2 a3 a4 a5 a6 a7 a8 a9 a10 a11 a12 a13 a14 a15 : Value} (v5 v6 v7 v8 v9 v10 v11 v12 v13 v14 v15 : Value) (h : Cel W b #[a0, a1, a2, a3, a4, a5, a6, a7, a8, a9, a10, a11, a12, a13, a14, a15] t) : Cel (W.setCells b 5 [v5, v6, v7, v8, v9, v10, v11, v12, v13, v14, v15]) b #[a0, a1, a2, a3, a4, v5, v6, v7, v8, v9, v10, v11, v12, v13, v14, v15] t := by
  have h5 : Cel (W.setCell ⟨b, 5, none⟩ v5) b #[a0, a1, a2, a3, a4, v5, a6, a7, a8, a9, a10, a11, a12, a13, a14, a15] t := Cel.set (j := 5) h v5
  have h6 : Cel ((W.setCell ⟨b, 5, none⟩ v5).setCell ⟨b, 6, none⟩ v6) b #[a0, a1, a2, a3, a4, v5, v6, a7, a8, a9, a10, a11, a12, a13, a14, a15] t := Cel.set (j := 6) h5 v6
  have h7 : Cel (((W.setCell ⟨b, 5, none⟩ v5).setCell ⟨b, 6, none⟩ v6).setCell ⟨b, 7, none⟩ v7) b #[a0, a1, a2, a3, a4, v5, v6, v7, a8, a9, a10, a11, a12, a13, a14, a15] t := Cel.set (j := 7) h6 v7
  have h8 : Cel ((((W.setCell ⟨b, 5, none⟩ v5).setCell ⟨b, 6, none⟩ v6).setCell ⟨b, 7, none⟩ v7).setCell ⟨b, 8, none⟩ v8) b #[a0, a1, a2, a3, a4, v5, v6, v7, v8, a9, a10, a11, a12, a13, a14, a15] t := Cel.set (j := 8) h7 v8
  have h9 : Cel (((((W.setCell ⟨b, 5, none⟩ v5).setCell ⟨b, 6, none⟩ v6).setCell ⟨b, 7, none⟩ v7).setCell ⟨b, 8, none⟩ v8).setCell ⟨b, 9, none⟩ v9) b #[a0, a1, a2, a3, a4, v5, v6, v7, v8, v9, a10, a11, a12, a13, a14, a15] t := Cel.set (j := 9) h8 v9
  have h10 : Cel ((((((W.setCell ⟨b, 5, none⟩ v5).setCell ⟨b, 6, none⟩ v6).setCell ⟨b, 7, none⟩ v7).setCell ⟨b, 8, none⟩ v8).setCell ⟨b, 9, none⟩ v9).setCell ⟨b, 10, none⟩ v10) b #[a0, a1, a2, a3, a4, v5, v6, v7, v8, v9, v10, a11, a12, a13, a14, a15] t := Cel.set (j := 10) h9 v10
  have h11 : Cel (((((((W.setCell ⟨b, 5, none⟩ v5).setCell ⟨b, 6, none⟩ v6).setCell ⟨b, 7, none⟩ v7).setCell ⟨b, 8, none⟩ v8).setCell ⟨b, 9, none⟩ v9).setCell ⟨b, 10, none⟩ v10).setCell ⟨b, 11, none⟩ v11) b #[a0, a1, a2, a3, a4, v5, v6, v7, v8, v9, v10, v11, a12, a13, a14, a15] t := Cel.set (j := 11) h10 v11
  have h12 : Cel ((((((((W.setCell ⟨b, 5, none⟩ v5).setCell ⟨b, 6, none⟩ v6).setCell ⟨b, 7, none⟩ v7).setCell ⟨b, 8, none⟩ v8).setCell ⟨b, 9, none⟩ v9).setCell ⟨b, 10, none⟩ v10).setCell ⟨b, 11, none⟩ v11).setCell ⟨b, 12, none⟩ v12) b #[a0, a1, a2, a3, a4, v5, v6, v7, v8, v9, v10, v11, v12, a13, a14, a15] t := Cel.set (j := 12) h11 v12
  have h13 : Cel (((((((((W.setCell ⟨b, 5, none⟩ v5).setCell ⟨b, 6, none⟩ v6).setCell ⟨b, 7, none⟩ v7).setCell ⟨b, 8, none⟩ v8).setCell ⟨b, 9, none⟩ v9).setCell ⟨b, 10, none⟩ v10).setCell ⟨b, 11, none⟩ v11).setCell ⟨b, 12, none⟩ v12).setCell ⟨b, 13, none⟩ v13) b #[a0, a1, a2, a3, a4, v5, v6, v7, v8, v9, v10, v11, v12, v13, a14, a15] t := Cel.set (j := 13) h12 v13
  have h14 : Cel ((((((((((W.setCell ⟨b, 5, none⟩ v5).setCell ⟨b, 6, none⟩ v6).setCell ⟨b, 7, none⟩ v7).setCell ⟨b, 8, none⟩ v8).setCell ⟨b, 9, none⟩ v9).setCell ⟨b, 10, none⟩ v10).setCell ⟨b, 11, none⟩ v11).setCell ⟨b, 12, none⟩ v12).setCell ⟨b, 13, none⟩ v13).setCell ⟨b, 14, none⟩ v14) b #[a0, a1, a2, a3, a4, v5, v6, v7, v8, v9, v10, v11, v12, v13, v14, a15] t := Cel.set (j := 14) h13 v14
  have h15 : Cel (((((((((((W.setCell ⟨b, 5, none⟩ v5).setCell ⟨b, 6, none⟩ v6).setCell ⟨b, 7, none⟩ v7).setCell ⟨b, 8, none⟩ v8).setCell ⟨b, 9, none⟩ v9).setCell ⟨b, 10, none⟩ v10).setCell ⟨b, 11, none⟩ v11).setCell ⟨b, 12, none⟩ v12).setCell ⟨b, 13, none⟩ v13).setCell ⟨b, 14, none⟩ v14).setCell ⟨b, 15, none⟩ v15) b #[a0, a1, a2, a3, a4, v5, v6, v7, v8, v9, v10, v11, v12, v13, v14, v15] t := Cel.set (j := 15) h14 v15
  exact h15
theorem Cel.all16 {W : World} {b : Nat} {t : TypeId} {a0 a1 a2 a3 a4 a5 a6 a7 a8 a9 a10 a11 a12 a13 a14 a15 : Value} (v0 v1 v2 v3 v4 v5 v6 v7 v8 v9 v10 v11 v12 v13 v14 v15 : Value) (h : Cel W b #[a0, a1, a2, a3, a4, a5, a6, a7, a8, a9, a10, a11, a12, a13, a14, a15] t) : Cel (W.setCells b 0 [v0, v1, v2, v3, v4, v5, v6, v7, v8, v9, v10, v11, v12, v13, v14, v15]) b #[v0, v1, v2, v3, v4, v5, v6, v7, v8, v9, v10, v11, v12, v13, v14, v15] t := by
  have h0 : Cel (W.setCell ⟨b, 0, none⟩ v0) b #[v0, a1, a2, a3, a4, a5, a6, a7, a8, a9, a10, a11, a12, a13, a14, a15] t := Cel.set (j := 0) h v0
  have h1 : Cel ((W.setCell ⟨b, 0, none⟩ v0).setCell ⟨b, 1, none⟩ v1) b #[v0, v1, a2, a3, a4, a5, a6, a7, a8, a9, a10, a11, a12, a13, a14, a15] t := Cel.set (j := 1) h0 v1
  have h2 : Cel (((W.setCell ⟨b, 0, none⟩ v0).setCell ⟨b, 1, none⟩ v1).setCell ⟨b, 2, none⟩ v2) b #[v0, v1, v2, a3, a4, a5, a6, a7, a8, a9, a10, a11, a12, a13, a14, a15] t := Cel.set (j := 2) h1 v2
  have h3 : Cel ((((W.setCell ⟨b, 0, none⟩ v0).setCell ⟨b, 1, none⟩ v1).setCell ⟨b, 2, none⟩ v2).setCell ⟨b, 3, none⟩ v3) b #[v0, v1, v2, v3, a4, a5, a6, a7, a8, a9, a10, a11, a12, a13, a14, a15] t := Cel.set (j := 3) h2 v3
  have h4 : Cel (((((W.setCell ⟨b, 0, none⟩ v0).setCell ⟨b, 1, none⟩ v1).setCell ⟨b, 2, none⟩ v2).setCell ⟨b, 3, none⟩ v3).setCell ⟨b, 4, none⟩ v4) b #[v0, v1, v2, v3, v4, a5, a6, a7, a8, a9, a10, a11, a12, a13, a14, a15] t := Cel.set (j := 4) h3 v4
  have h5 : Cel ((((((W.setCell ⟨b, 0, none⟩ v0).setCell ⟨b, 1, none⟩ v1).setCell ⟨b, 2, none⟩ v2).setCell ⟨b, 3, none⟩ v3).setCell ⟨b, 4, none⟩ v4).setCell ⟨b, 5, none⟩ v5) b #[v0, v1, v2, v3, v4, v5, a6, a7, a8, a9, a10, a11, a12, a13, a14, a15] t := Cel.set (j := 5) h4 v5
  have h6 : Cel (((((((W.setCell ⟨b, 0, none⟩ v0).setCell ⟨b, 1, none⟩ v1).setCell ⟨b, 2, none⟩ v2).setCell ⟨b, 3, none⟩ v3).setCell ⟨b, 4, none⟩ v4).setCell ⟨b, 5, none⟩ v5).setCell ⟨b, 6, none⟩ v6) b #[v0, v1, v2, v3, v4, v5, v6, a7, a8, a9, a10, a11, a12, a13, a14, a15] t := Cel.set (j := 6) h5 v6
  have h7 : Cel ((((((((W.setCell ⟨b, 0, none⟩ v0).setCell ⟨b, 1, none⟩ v1).setCell ⟨b, 2, none⟩ v2).setCell ⟨b, 3, none⟩ v3).setCell ⟨b, 4, none⟩ v4).setCell ⟨b, 5, none⟩ v5).setCell ⟨b, 6, none⟩ v6).setCell ⟨b, 7, none⟩ v7) b #[v0, v1, v2, v3, v4, v5, v6, v7, a8, a9, a10, a11, a12, a13, a14, a15] t := Cel.set (j := 7) h6 v7
  have h8 : Cel (((((((((W.setCell ⟨b, 0, none⟩ v0).setCell ⟨b, 1, none⟩ v1).setCell ⟨b, 2, none⟩ v2).setCell ⟨b, 3, none⟩ v3).setCell ⟨b, 4, none⟩ v4).setCell ⟨b, 5, none⟩ v5).setCell ⟨b, 6, none⟩ v6).setCell ⟨b, 7, none⟩ v7).setCell ⟨b, 8, none⟩ v8) b #[v0, v1, v2, v3, v4, v5, v6, v7, v8, a9, a10, a11, a12, a13, a14, a15] t := Cel.set (j := 8) h7 v8
  have h9 : Cel ((((((((((W.setCell ⟨b, 0, none⟩ v0).setCell ⟨b, 1, none⟩ v1).setCell ⟨b, 2, none⟩ v2).setCell ⟨b, 3, none⟩ v3).setCell ⟨b, 4, none⟩ v4).setCell ⟨b, 5, none⟩ v5).setCell ⟨b, 6, none⟩ v6).setCell ⟨b, 7, none⟩ v7).setCell ⟨b, 8, none⟩ v8).setCell ⟨b, 9, none⟩ v9) b #[v0, v1, v2, v3, v4, v5, v6, v7, v8, v9, a10, a11, a12, a13, a14, a15] t := Cel.set (j := 9) h8 v9
  have h10 : Cel (((((((((((W.setCell ⟨b, 0, none⟩ v0).setCell ⟨b, 1, none⟩ v1).setCell ⟨b, 2, none⟩ v2).setCell ⟨b, 3, none⟩ v3).setCell ⟨b, 4, none⟩ v4).setCell ⟨b, 5, none⟩ v5).setCell ⟨b, 6, none⟩ v6).setCell ⟨b, 7, none⟩ v7).setCell ⟨b, 8, none⟩ v8).setCell ⟨b, 9, none⟩ v9).setCell ⟨b, 10, none⟩ v10) b #[v0, v1, v2, v3, v4, v5, v6, v7, v8, v9, v10, a11, a12, a13, a14, a15] t := Cel.set (j := 10) h9 v10
  have h11 : Cel ((((((((((((W.setCell ⟨b, 0, none⟩ v0).setCell ⟨b, 1, none⟩ v1).setCell ⟨b, 2, none⟩ v2).setCell ⟨b, 3, none⟩ v3).setCell ⟨b, 4, none⟩ v4).setCell ⟨b, 5, none⟩ v5).setCell ⟨b, 6, none⟩ v6).setCell ⟨b, 7, none⟩ v7).setCell ⟨b, 8, none⟩ v8).setCell ⟨b, 9, none⟩ v9).setCell ⟨b, 10, none⟩ v10).setCell ⟨b, 11, none⟩ v11) b #[v0, v1, v2, v3, v4, v5, v6, v7, v8, v9, v10, v11, a12, a13, a14, a15] t := Cel.set (j := 11) h10 v11
  have h12 : Cel (((((((((((((W.setCell ⟨b, 0, none⟩ v0).setCell ⟨b, 1, none⟩ v1).setCell ⟨b, 2, none⟩ v2).setCell ⟨b, 3, none⟩ v3).setCell ⟨b, 4, none⟩ v4).setCell ⟨b, 5, none⟩ v5).setCell ⟨b, 6, none⟩ v6).setCell ⟨b, 7, none⟩ v7).setCell ⟨b, 8, none⟩ v8).setCell ⟨b, 9, none⟩ v9).setCell ⟨b, 10, none⟩ v10).setCell ⟨b, 11, none⟩ v11).setCell ⟨b, 12, none⟩ v12) b #[v0, v1, v2, v3, v4, v5, v6, v7, v8, v9, v10, v11, v12, a13, a14, a15] t := Cel.set (j := 12) h11 v12
  have h13 : Cel ((((((((((((((W.setCell ⟨b, 0, none⟩ v0).setCell ⟨b, 1, none⟩ v1).setCell ⟨b, 2, none⟩ v2).setCell ⟨b, 3, none⟩ v3).setCell ⟨b, 4, none⟩ v4).setCell ⟨b, 5, none⟩ v5).setCell ⟨b, 6, none⟩ v6).setCell ⟨b, 7, none⟩ v7).setCell ⟨b, 8, none⟩ v8).setCell ⟨b, 9, none⟩ v9).setCell ⟨b, 10, none⟩ v10).setCell ⟨b, 11, none⟩ v11).setCell ⟨b, 12, none⟩ v12).setCell ⟨b, 13, none⟩ v13) b #[v0, v1, v2, v3, v4, v5, v6, v7, v8, v9, v10, v11, v12, v13, a14, a15] t := Cel.set (j := 13) h12 v13
  have h14 : Cel (((((((((((((((W.setCell ⟨b, 0, none⟩ v0).setCell ⟨b, 1, none⟩ v1).setCell ⟨b, 2, none⟩ v2).setCell ⟨b, 3, none⟩ v3).setCell ⟨b, 4, none⟩ v4).setCell ⟨b, 5, none⟩ v5).setCell ⟨b, 6, none⟩ v6).setCell ⟨b, 7, none⟩ v7).setCell ⟨b, 8, none⟩ v8).setCell ⟨b, 9, none⟩ v9).setCell ⟨b, 10, none⟩ v10).setCell ⟨b, 11, none⟩ v11).setCell ⟨b, 12, none⟩ v12).setCell ⟨b, 13, none⟩ v13).setCell ⟨b, 14, none⟩ v14) b #[v0, v1, v2, v3, v4, v5, v6, v7, v8, v9, v10, v11, v12, v13, v14, a15] t := Cel.set (j := 14) h13 v14
  have h15 : Cel ((((((((((((((((W.setCell ⟨b, 0, none⟩ v0).setCell ⟨b, 1, none⟩ v1).setCell ⟨b, 2, none⟩ v2).setCell ⟨b, 3, none⟩ v3).setCell ⟨b, 4, none⟩ v4).setCell ⟨b, 5, none⟩ v5).setCell ⟨b, 6, none⟩ v6).setCell ⟨b, 7, none⟩ v7).setCell ⟨b, 8, none⟩ v8).setCell ⟨b, 9, none⟩ v9).setCell ⟨b, 10, none⟩ v10).setCell ⟨b, 11, none⟩ v11).setCell ⟨b, 12, none⟩ v12).setCell ⟨b, 13, none⟩ v13).setCell ⟨b, 14, none⟩ v14).setCell ⟨b, 15, none⟩ v15) b #[v0, v1, v2, v3, v4, v5, v6, v7, v8, v9, v10, v11, v12, v13, v14, v15] t := Cel.set (j := 15) h14 v15
  exact h15
theorem But.setCells {b : Nat} : ∀ (vs : List Value) (o : Nat) (w : World), But [b] w (w.setCells b o vs)
  | [], _, w => But.refl _ w
  | v :: vs, o, w => ((But.refl [b] w).set (p := ⟨b, o, none⟩) (by simp) v).trans (But.setCells vs (o + 1) _)
/-- A context's cells. -/
def cxl (c : Cx) : List Value := [.int .i64 c.pg, .int .i64 c.pc, .int .i64 (c.rs 0), .int .i64 (c.rs 1), .int .i64 (c.rs 2), .int .i64 (c.rs 3), .int .i64 (c.rs 4), .int .i64 (c.rs 5), .int .i64 (c.rs 6), .int .i64 (c.rs 7), .int .i64 c.dp]
def cxa (c : Cx) : Array Value := #[.int .i64 c.pg, .int .i64 c.pc, .int .i64 (c.rs 0), .int .i64 (c.rs 1), .int .i64 (c.rs 2), .int .i64 (c.rs 3), .int .i64 (c.rs 4), .int .i64 (c.rs 5), .int .i64 (c.rs 6), .int .i64 (c.rs 7), .int .i64 c.dp]
theorem cxl_len (c : Cx) : (cxl c).length = 11 := rfl
theorem sizeCx : (Tryd.prog.info? 30).map (·.size) = some 11 := by kernel_rfl
theorem cxl_one (c : Cx) : (cxl c).toArray.all (·.oneCell') = true := all_oneCell_toArray (fun u hu => by
  simp [cxl] at hu
  rcases hu with rfl | rfl | rfl | rfl | rfl | rfl | rfl | rfl | rfl | rfl | rfl <;> rfl)
theorem c16_one (e : Ac) : (c16 e).toArray.all (·.oneCell') = true := all_oneCell_toArray (fun u hu => flatA_one [e] u (by simpa [flatA] using hu))
/-- One with another context. -/
theorem Cel.pre {W : World} {b : Nat} {a : Ac} (c : Cx) (h : Cel W b (acA { a with st := 4, co := -1 }) 44) : Cel (W.setCells b 5 (cxl c)) b (acA (preF c a)) 44 := Cel.cx _ _ _ _ _ _ _ _ _ _ _ h
theorem Cel.ac {W : World} {b : Nat} {t : TypeId} {a : Ac} (a' : Ac) (h : Cel W b (acA a) t) : Cel (W.setCells b 0 (c16 a')) b (acA a') t := Cel.all16 _ _ _ _ _ _ _ _ _ _ _ _ _ _ _ _ h
theorem Cel.there {W : World} {b : Nat} {t : TypeId} {a : Ac} (h : Cel W b (acA a) t) : W.there b 0 16 := fun k hk => ⟨by
  have : (acA a)[0 + k]? = some ((acA a)[0 + k]'(by rw [acA_size]; omega)) := Array.getElem?_eq_getElem _
  rw [h.cell this]
  rfl, h.fz _⟩
theorem Cel.there5 {W : World} {b : Nat} {t : TypeId} {a : Ac} (h : Cel W b (acA a) t) : W.there b 5 11 := fun k hk => ⟨by
  have : (acA a)[5 + k]? = some ((acA a)[5 + k]'(by rw [acA_size]; omega)) := Array.getElem?_eq_getElem _
  rw [h.cell this]
  rfl, h.fz _⟩
theorem load_yields {ops : Array Oper} {S : World → Prop} {op : Oper} {a : Act} {t : TypeId} {p v : Value} {x : Operand} (hw : Region.wanted op (yielded ops a.tmps) = true) (ho : op.op = .load t x) (hx : a.eval x = p)
    (h : ∀ w, S w → (Instr.loadAt t p).run Tryd.prog w = .ok v w) : YieldsIf Tryd.prog ops S op v a :=
  .inl ⟨hw, fun w hS => by
    unfold execOp
    simp only [ho, hx, Sem.run_bind, h w hS, Result.andThen_ok, Sem.run_pure]⟩
end Go.Proofs.YtjgclehghnmhnaaDoor
