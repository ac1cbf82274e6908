/- CpuGives returns true: its walk. -/
import Derived.Test.YtllnpkijojpccaaDoorRGive
namespace Go.Proofs.YtllnpkijojpccaaDoor
open Go Go.RowKit Go.Shelf

/-- What stays while the law asks. -/
structure Gv (w : World) (c : Cx) (x : Ins) (a b : Int) (W : World) : Prop where
  c : Cel W w.heap.size (cxA c) 26
  k : Cel W (w.heap.size + 1) (insC x) 30
  t : Cel W (w.heap.size + 1 + 1) #[.int .i64 a, .int .i64 b] 41
  b : Below w.heap.size w W
theorem Gv.on {w W W' : World} {c : Cx} {x : Ins} {a b : Int} (h : Gv w c x a b W) (hb : Below W.heap.size W W') : Gv w c x a b W' := ⟨h.c.below hb, h.k.below hb, h.t.below hb, h.b.trans (hb.mono h.b.size)⟩
theorem Gv.call {w : World} {c : Cx} {x : Ins} {a b : Int} {P : Program} {f : FuncId} {args : Array Value} {v : Value} (z : Wd (Gv w c x a b)) (h : Calls P f args z.W fun e w' => e = .returned v ∧ Below z.W.heap.size z.W w') : Calls P f args z.W fun e w' => e = .returned v ∧ ∃ z' : Wd (Gv w c x a b), w' = z'.W :=
  h.mono fun _ w' ⟨he, hb⟩ => ⟨he, ⟨w', z.ok.on hb⟩, rfl⟩

set_option maxRecDepth 100000 in
set_option maxHeartbeats 4000000 in
theorem gives_go {w : World} {c g r : Cx} {x : Ins} {a b : Int}
    (H1 : ∀ W : World, Below w.heap.size w W → Calls Tryd.prog 14 #[.agg #[.int .i64 c.pg, .int .i64 c.pc, .int .i64 (c.rs 0), .int .i64 (c.rs 1), .int .i64 (c.rs 2), .int .i64 (c.rs 3), .int .i64 (c.rs 4), .int .i64 (c.rs 5), .int .i64 (c.rs 6), .int .i64 (c.rs 7), .int .i64 c.dp], .agg #[.int .i64 x.1, .int .i64 x.2.1, .int .i64 x.2.2.1, .int .i64 x.2.2.2], .int .i64 a, .int .i64 b] W fun e w' => e = .returned (.agg #[.int .i64 g.pg, .int .i64 g.pc, .int .i64 (g.rs 0), .int .i64 (g.rs 1), .int .i64 (g.rs 2), .int .i64 (g.rs 3), .int .i64 (g.rs 4), .int .i64 (g.rs 5), .int .i64 (g.rs 6), .int .i64 (g.rs 7), .int .i64 g.dp]) ∧ Below W.heap.size W w')
    (H2 : ∀ W : World, Below w.heap.size w W → Calls Tryd.prog 15 #[.agg #[.int .i64 c.pg, .int .i64 c.pc, .int .i64 (c.rs 0), .int .i64 (c.rs 1), .int .i64 (c.rs 2), .int .i64 (c.rs 3), .int .i64 (c.rs 4), .int .i64 (c.rs 5), .int .i64 (c.rs 6), .int .i64 (c.rs 7), .int .i64 c.dp], .agg #[.int .i64 x.1, .int .i64 x.2.1, .int .i64 x.2.2.1, .int .i64 x.2.2.2], .int .i64 a, .int .i64 b] W fun e w' => e = .returned (.agg #[.int .i64 g.pg, .int .i64 g.pc, .int .i64 (g.rs 0), .int .i64 (g.rs 1), .int .i64 (g.rs 2), .int .i64 (g.rs 3), .int .i64 (g.rs 4), .int .i64 (g.rs 5), .int .i64 (g.rs 6), .int .i64 (g.rs 7), .int .i64 g.dp]) ∧ Below W.heap.size W w')
    (H3 : ∀ W : World, Below w.heap.size w W → Calls Tryd.prog 16 #[.int .i64 a, .int .i64 b] W fun e w' => e = .returned (.agg #[.int .i64 r.pg, .int .i64 r.pc, .int .i64 (r.rs 0), .int .i64 (r.rs 1), .int .i64 (r.rs 2), .int .i64 (r.rs 3), .int .i64 (r.rs 4), .int .i64 (r.rs 5), .int .i64 (r.rs 6), .int .i64 (r.rs 7), .int .i64 r.dp]) ∧ Below W.heap.size W w')
    (H4 : ∀ W : World, Below w.heap.size w W → Calls Tryd.prog 17 #[.int .i64 a, .int .i64 b] W fun e w' => e = .returned (.agg #[.int .i64 r.pg, .int .i64 r.pc, .int .i64 (r.rs 0), .int .i64 (r.rs 1), .int .i64 (r.rs 2), .int .i64 (r.rs 3), .int .i64 (r.rs 4), .int .i64 (r.rs 5), .int .i64 (r.rs 6), .int .i64 (r.rs 7), .int .i64 r.dp]) ∧ Below W.heap.size W w')
    (H5 : ∀ W : World, Below w.heap.size w W → Calls Tryd.prog 18 #[.agg #[.int .i64 c.pg, .int .i64 c.pc, .int .i64 (c.rs 0), .int .i64 (c.rs 1), .int .i64 (c.rs 2), .int .i64 (c.rs 3), .int .i64 (c.rs 4), .int .i64 (c.rs 5), .int .i64 (c.rs 6), .int .i64 (c.rs 7), .int .i64 c.dp]] W fun e w' => e = .returned (.bool (c.dp == 0)) ∧ Below W.heap.size W w')
    (HL : ∀ W : World, Below w.heap.size w W → Calls Tryd.prog 9 #[] W fun e w' => e = .returned (.bool true) ∧ Below W.heap.size W w')
    : Calls Tryd.prog 4 #[.agg #[.int .i64 c.pg, .int .i64 c.pc, .int .i64 (c.rs 0), .int .i64 (c.rs 1), .int .i64 (c.rs 2), .int .i64 (c.rs 3), .int .i64 (c.rs 4), .int .i64 (c.rs 5), .int .i64 (c.rs 6), .int .i64 (c.rs 7), .int .i64 c.dp], .agg #[.int .i64 x.1, .int .i64 x.2.1, .int .i64 x.2.2.1, .int .i64 x.2.2.2], .agg #[.int .i64 a, .int .i64 b]] w fun e w' => e = .returned (.bool true) ∧ Below w.heap.size w w' := by
  have hmx := mixed
  have eW : ∀ W : World, W = ((w.alloc (.cells #[.int .i64 c.pg, .int .i64 c.pc, .int .i64 (c.rs 0), .int .i64 (c.rs 1), .int .i64 (c.rs 2), .int .i64 (c.rs 3), .int .i64 (c.rs 4), .int .i64 (c.rs 5), .int .i64 (c.rs 6), .int .i64 (c.rs 7), .int .i64 c.dp] 26)).alloc (.cells #[.int .i64 x.1, .int .i64 x.2.1, .int .i64 x.2.2.1, .int .i64 x.2.2.2] 30)).alloc (.cells #[.int .i64 a, .int .i64 b] 41) → Gv w c x a b W := by
    rintro W rfl
    refine ⟨((Cel.new w _ 26).put (Below.heap_alloc _ _ _ (by simp))).put (Below.heap_alloc _ _ _ (by simp; omega)), ?_, ?_, (((Below.refl _ w).alloc (Nat.le_refl _) _).alloc (by simp) _).alloc (by simp; omega) _⟩
    · have h := Cel.new (w.alloc (.cells #[.int .i64 c.pg, .int .i64 c.pc, .int .i64 (c.rs 0), .int .i64 (c.rs 1), .int .i64 (c.rs 2), .int .i64 (c.rs 3), .int .i64 (c.rs 4), .int .i64 (c.rs 5), .int .i64 (c.rs 6), .int .i64 (c.rs 7), .int .i64 c.dp] 26)) #[.int .i64 x.1, .int .i64 x.2.1, .int .i64 x.2.2.1, .int .i64 x.2.2.2] 30
      rw [World.size_alloc] at h
      exact h.put (Below.heap_alloc _ _ _ (by simp))
    · have h := Cel.new ((w.alloc (.cells #[.int .i64 c.pg, .int .i64 c.pc, .int .i64 (c.rs 0), .int .i64 (c.rs 1), .int .i64 (c.rs 2), .int .i64 (c.rs 3), .int .i64 (c.rs 4), .int .i64 (c.rs 5), .int .i64 (c.rs 6), .int .i64 (c.rs 7), .int .i64 c.dp] 26)).alloc (.cells #[.int .i64 x.1, .int .i64 x.2.1, .int .i64 x.2.2.1, .int .i64 x.2.2.2] 30)) #[.int .i64 a, .int .i64 b] 41
      rw [World.size_alloc, World.size_alloc] at h
      exact h
  have hV := eW _ rfl
  clear eW
  have EG := fun W => eqCx g W
  have ER := fun W => eqCx r W
  unfold cxA at EG ER
  go_enter Tryd.func4, Tryd.ntmps4
  go_upto_region 1 with fail
  generalize ((w.alloc (.cells #[.int .i64 c.pg, .int .i64 c.pc, .int .i64 (c.rs 0), .int .i64 (c.rs 1), .int .i64 (c.rs 2), .int .i64 (c.rs 3), .int .i64 (c.rs 4), .int .i64 (c.rs 5), .int .i64 (c.rs 6), .int .i64 (c.rs 7), .int .i64 c.dp] 26)).alloc (.cells #[.int .i64 x.1, .int .i64 x.2.1, .int .i64 x.2.2.1, .int .i64 x.2.2.2] 30)).alloc (.cells #[.int .i64 a, .int .i64 b] 41) = W at *
  have y0 : ∀ z : Wd (Gv w c x a b), z.W.cell? ⟨w.heap.size, 0, none⟩ = some (.int .i64 c.pg) := fun z => z.ok.c.cell rfl
  have y1 : ∀ z : Wd (Gv w c x a b), z.W.cell? ⟨w.heap.size, 1, none⟩ = some (.int .i64 c.pc) := fun z => z.ok.c.cell rfl
  have y2 : ∀ z : Wd (Gv w c x a b), z.W.cell? ⟨w.heap.size, 2, none⟩ = some (.int .i64 (c.rs 0)) := fun z => z.ok.c.cell rfl
  have y3 : ∀ z : Wd (Gv w c x a b), z.W.cell? ⟨w.heap.size, 3, none⟩ = some (.int .i64 (c.rs 1)) := fun z => z.ok.c.cell rfl
  have y4 : ∀ z : Wd (Gv w c x a b), z.W.cell? ⟨w.heap.size, 4, none⟩ = some (.int .i64 (c.rs 2)) := fun z => z.ok.c.cell rfl
  have y5 : ∀ z : Wd (Gv w c x a b), z.W.cell? ⟨w.heap.size, 5, none⟩ = some (.int .i64 (c.rs 3)) := fun z => z.ok.c.cell rfl
  have y6 : ∀ z : Wd (Gv w c x a b), z.W.cell? ⟨w.heap.size, 6, none⟩ = some (.int .i64 (c.rs 4)) := fun z => z.ok.c.cell rfl
  have y7 : ∀ z : Wd (Gv w c x a b), z.W.cell? ⟨w.heap.size, 7, none⟩ = some (.int .i64 (c.rs 5)) := fun z => z.ok.c.cell rfl
  have y8 : ∀ z : Wd (Gv w c x a b), z.W.cell? ⟨w.heap.size, 8, none⟩ = some (.int .i64 (c.rs 6)) := fun z => z.ok.c.cell rfl
  have y9 : ∀ z : Wd (Gv w c x a b), z.W.cell? ⟨w.heap.size, 9, none⟩ = some (.int .i64 (c.rs 7)) := fun z => z.ok.c.cell rfl
  have y10 : ∀ z : Wd (Gv w c x a b), z.W.cell? ⟨w.heap.size, 10, none⟩ = some (.int .i64 c.dp) := fun z => z.ok.c.cell rfl
  have q0 : ∀ z : Wd (Gv w c x a b), z.W.cell? ⟨w.heap.size + 1, 0, none⟩ = some (.int .i64 x.1) := fun z => z.ok.k.cell rfl
  have q1 : ∀ z : Wd (Gv w c x a b), z.W.cell? ⟨w.heap.size + 1, 1, none⟩ = some (.int .i64 x.2.1) := fun z => z.ok.k.cell rfl
  have q2 : ∀ z : Wd (Gv w c x a b), z.W.cell? ⟨w.heap.size + 1, 2, none⟩ = some (.int .i64 x.2.2.1) := fun z => z.ok.k.cell rfl
  have q3 : ∀ z : Wd (Gv w c x a b), z.W.cell? ⟨w.heap.size + 1, 3, none⟩ = some (.int .i64 x.2.2.2) := fun z => z.ok.k.cell rfl
  have t0 : ∀ z : Wd (Gv w c x a b), z.W.cell? ⟨w.heap.size + 1 + 1, 0, none⟩ = some (.int .i64 a) := fun z => z.ok.t.cell rfl
  have t1 : ∀ z : Wd (Gv w c x a b), z.W.cell? ⟨w.heap.size + 1 + 1, 1, none⟩ = some (.int .i64 b) := fun z => z.ok.t.cell rfl
  have J1 := fun z : Wd (Gv w c x a b) => Gv.call z (H1 z.W z.ok.b)
  have J2 := fun z : Wd (Gv w c x a b) => Gv.call z (H2 z.W z.ok.b)
  have J3 := fun z : Wd (Gv w c x a b) => Gv.call z (H3 z.W z.ok.b)
  have J4 := fun z : Wd (Gv w c x a b) => Gv.call z (H4 z.W z.ok.b)
  have J5 := fun z : Wd (Gv w c x a b) => Gv.call z (H5 z.W z.ok.b)
  have JL := fun z : Wd (Gv w c x a b) => Gv.call z (HL z.W z.ok.b)
  clear H1 H2 H3 H4 H5 HL
  haveI : Nonempty (Wd (Gv w c x a b)) := ⟨⟨W, hV⟩⟩
  refine wp_region_tail (fun w' => ∃ z : Wd (Gv w c x a b), w' = z.W) hmx (by kernel_rfl) (by kernel_rfl) rfl ⟨⟨W.drew, hV.on (Below.refl _ W).drew⟩, rfl⟩ ?_
  show wpQuiet _ _ _ _ (_ :: _ :: _ :: _ :: _ :: _ :: _ :: _ :: _ :: _ :: _ :: _ :: _ :: _ :: _ :: _ :: _ :: _ :: _ :: _ :: _ :: _ :: _ :: _ :: _ :: _ :: _ :: _ :: _ :: _ :: _ :: _ :: _ :: _ :: _ :: _ :: _ :: _ :: _ :: []) _
  repeat (go_big_quiet_step (first | (go_at_call 14; exact J1 _) | (go_at_call 15; exact J2 _) | (go_at_call 16; exact J3 _) | (go_at_call 17; exact J4 _) | (go_at_call 18; exact J5 _) | (go_at_call 9; exact JL _)))
  refine wpQuiet_nil ?_
  rintro _ ⟨z, rfl⟩
  go_wp2_with fail
  go_ret
  exact ⟨rfl, z.ok.b⟩

theorem gives_tail (c : Cx) (x : Ins) (a b : Int) (w : World) (hT : Tab w) : Calls Tryd.prog 4 #[.agg (cxA c), .agg (insC x), .agg #[.int .i64 a, .int .i64 b]] w fun e w' => e = .returned (.bool true) ∧ Below w.heap.size w w' :=
  gives_go (g := giveC c x a b) (r := freshC a b) (fun W _ => give_any c x a b W) (fun W _ => rgive_any c x a b W) (fun W _ => fresh_any a b W) (fun W _ => rfresh_any a b W) (fun W _ => safe_any c W) (fun _ hb => lives_any (hT.on hb))

end Go.Proofs.YtllnpkijojpccaaDoor
