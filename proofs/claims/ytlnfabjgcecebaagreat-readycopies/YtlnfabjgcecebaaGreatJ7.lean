/- A heap as it lies in memory; what is kept beside it. -/
/- Contracts of made, over, before, ahead, has, Len, ask. -/
/- Contracts of ahead, has, ask, under. -/
/- Contracts of has, ask, under. -/
import Derived.Test.YtlnfabjgcecebaaGreatJ6
import Derived.Test.YtlnfabjgcecebaaGreatRows
import Derived.ProofKit
import Derived.BigQuiet
import Derived.OwnWalk
import Derived.Below
import Derived.WalkSmall
import Derived.Deep.RegionHeld3
namespace Go.Proofs.YtlnfabjgcecebaaGreat.Hp
open Go.RowKit

/-- All blocks but those of S are as they were. -/
structure But (S : List Nat) (w w' : World) : Prop where
  os : w'.os = w.os
  tape : w'.tape = w.tape
  output : w'.output = w.output
  size : w.heap.size ≤ w'.heap.size
  block : ∀ k, k < w.heap.size → k ∉ S → w'.heap[k]? = w.heap[k]?

theorem But.refl (S : List Nat) (w : World) : But S w w := ⟨rfl, rfl, rfl, Nat.le_refl _, fun _ _ _ => rfl⟩
theorem But.trans {S : List Nat} {a b c : World} (h : But S a b) (k : But S b c) : But S a c :=
  ⟨k.os.trans h.os, k.tape.trans h.tape, k.output.trans h.output, Nat.le_trans h.size k.size, fun i hi hs => (k.block i (Nat.lt_of_lt_of_le hi h.size) hs).trans (h.block i hi hs)⟩
theorem But.mono {S T : List Nat} {a b : World} (h : But S a b) (hs : ∀ x ∈ S, x ∈ T) : But T a b :=
  ⟨h.os, h.tape, h.output, h.size, fun i hi ht => h.block i hi (fun e => ht (hs i e))⟩
theorem But.wide {S : List Nat} {a b : World} (h : But [] a b) : But S a b := h.mono (by simp)
theorem But.drew {S : List Nat} {a b : World} (h : But S a b) : But S a b.drew := h.trans ⟨rfl, rfl, rfl, Nat.le_refl _, fun _ _ _ => rfl⟩
theorem But.drewN {S : List Nat} {a b : World} (h : But S a b) (n : Nat) : But S a (b.drewN n) := h.trans ⟨rfl, rfl, rfl, Nat.le_refl _, fun _ _ _ => rfl⟩
theorem But.set {S : List Nat} {a b : World} (h : But S a b) {p : Addr} (hp : p.block ∈ S) (u : Value) : But S a (b.setCell p u) :=
  h.trans ⟨rfl, rfl, rfl, by simp [World.setCell], fun k _ hk => Below.heap_setCell _ _ _ _ (fun e => hk (e ▸ hp))⟩
theorem But.alloc {S : List Nat} {a b : World} (h : But S a b) (o : Obj) : But S a (b.alloc o) :=
  h.trans ⟨rfl, rfl, rfl, by simp, fun k hk _ => Below.heap_alloc _ _ _ hk⟩
/-- What is new, and turned, is no block of old. -/
theorem But.below {S : List Nat} {a b : World} (h : But S a b) {n : Nat} (hn : n ≤ a.heap.size) (hS : ∀ x ∈ S, n ≤ x) : Below n a b :=
  ⟨h.os, h.tape, h.output, h.size, fun k hk => h.block k (by omega) (fun e => by have := hS k e; omega)⟩
theorem But.of_below {S : List Nat} {a b : World} (h : Below a.heap.size a b) : But S a b := ⟨h.os, h.tape, h.output, h.size, fun k hk _ => h.block k hk⟩
theorem But.to_below {a b : World} (h : But [] a b) : Below a.heap.size a b := h.below (Nat.le_refl _) (by simp)
/-- Beyond what was there then, any block may turn. -/
theorem But.trans_new {S T : List Nat} {a b c : World} (h : But S a b) (k : But T b c) (hT : ∀ x ∈ T, x ∈ S ∨ a.heap.size ≤ x) : But S a c :=
  ⟨k.os.trans h.os, k.tape.trans h.tape, k.output.trans h.output, Nat.le_trans h.size k.size, fun i hi hs =>
    (k.block i (Nat.lt_of_lt_of_le hi h.size) (fun e => (hT i e).elim hs (fun l => by omega))).trans (h.block i hi hs)⟩
theorem But.cell {w w' : World} (h : But [] w w') {p : Addr} {v : Value} (hc : w.cell? p = some v) : w'.cell? p = some v :=
  (World.cell?_of_block (h.block p.block (World.block_lt_of_cell? w p hc) (by simp))).trans hc
theorem But.cell' {S : List Nat} {w w' : World} (h : But S w w') {p : Addr} {v : Value} (hc : w.cell? p = some v) (hp : p.block ∉ S) : w'.cell? p = some v :=
  (World.cell?_of_block (h.block p.block (World.block_lt_of_cell? w p hc) hp)).trans hc
theorem cell_on {w w' : World} (hb : Below w.heap.size w w') {p : Addr} {v : Value} (h : w.cell? p = some v) : w'.cell? p = some v :=
  (hb.cell (World.block_lt_of_cell? w p h)).trans h

/-- Nothing but a few draws lie between. -/
def Drawn (w w' : World) : Prop := ∃ k, w' = w.drewN k
theorem Drawn.trans {a b c : World} (h : Drawn a b) (k : ∃ k, c = b.drewN k) : Drawn a c := by
  obtain ⟨x, rfl⟩ := h
  obtain ⟨y, rfl⟩ := k
  exact ⟨x + y, by simp [World.drewN, Nat.add_assoc]⟩
theorem Drawn.refl (w : World) : Drawn w w := ⟨0, rfl⟩
theorem Drawn.drew {a b : World} (h : Drawn a b) : Drawn a b.drew := h.trans ⟨1, rfl⟩
theorem Drawn.but {S : List Nat} {a b : World} (h : Drawn a b) : But S a b := by
  obtain ⟨k, rfl⟩ := h
  exact (But.refl S a).drewN k

/-- Block G begins with these values. -/
def Row (w : World) (G : Nat) (t : TypeId) (vs : List Value) : Prop := ∃ cur : Array Value, w.heap[G]? = some (.cells cur t (0, 0)) ∧ ∀ (j : Nat) (v : Value), vs[j]? = some v → cur[j]? = some v

section
variable {w w' : World} {G : Nat} {t : TypeId} {vs : List Value}
theorem Row.lt (h : Row w G t vs) : G < w.heap.size := by
  obtain ⟨cur, h, _⟩ := h
  exact (Array.getElem?_eq_some_iff.1 h).1
theorem Row.cell (h : Row w G t vs) {j : Nat} {v : Value} (hv : vs[j]? = some v) : w.cell? ⟨G, j, none⟩ = some v := by
  obtain ⟨cur, h, k⟩ := h
  simp [World.cell?, h, k j v hv]
theorem Row.fz (h : Row w G t vs) (j : Nat) : w.frozen? ⟨G, j, none⟩ = false := by
  obtain ⟨cur, h, _⟩ := h
  simp [World.frozen?, h]
theorem Row.put (h : Row w G t vs) (e : w'.heap[G]? = w.heap[G]?) : Row w' G t vs := by
  obtain ⟨cur, h, k⟩ := h
  exact ⟨cur, e.trans h, k⟩
theorem Row.set (h : Row w G t vs) (j : Nat) (v : Value) : Row (w.setCell ⟨G, j, none⟩ v) G t (vs.set j v) := by
  obtain ⟨cur, h, k⟩ := h
  refine ⟨_, heap_setCell_same w G j _ t v h, fun i u hu => ?_⟩
  by_cases hij : j = i
  · subst hij
    rw [List.getElem?_set_self'] at hu
    cases hq : vs[j]? with
    | none => simp [hq] at hu
    | some q =>
      have hk := k j q hq
      have hlt := (Array.getElem?_eq_some_iff.1 hk).1
      simp [hq] at hu
      subst hu
      simp [hlt]
  · rw [List.getElem?_set_ne hij] at hu
    have hk := k i u hu
    simp [hij, hk]
theorem Row.other (h : Row w G t vs) {K : Nat} (hne : G ≠ K) (j : Nat) (v : Value) : Row (w.setCell ⟨K, j, none⟩ v) G t vs := h.put (Below.heap_setCell w ⟨K, j, none⟩ v G hne)
end


/-- Things as cells. -/
def flat (xs : List Th) : List Value := xs.flatMap (fun p => [.int .i64 (p.1 : Int), .int .i64 p.2])
theorem flat_nil : flat [] = [] := rfl
theorem flat_cons (p : Th) (xs : List Th) : flat (p :: xs) = .int .i64 (p.1 : Int) :: .int .i64 p.2 :: flat xs := rfl
theorem flat_app (xs ys : List Th) : flat (xs ++ ys) = flat xs ++ flat ys := by simp [flat]
theorem flat_len : ∀ xs : List Th, (flat xs).length = xs.length * 2
  | [] => rfl
  | p :: xs => by
    rw [flat_cons, List.length_cons, List.length_cons, flat_len xs, List.length_cons]
    omega
theorem flat_0 {xs : List Th} {i : Nat} {p : Th} (h : xs[i]? = some p) : (flat xs)[i * 2]? = some (.int .i64 (p.1 : Int)) := by
  obtain ⟨u, v, e, hu, _⟩ := mid_of h
  rw [e, flat_app, flat_cons, List.getElem?_append_right (by rw [flat_len]; omega), flat_len, hu]
  simp
theorem flat_1 {xs : List Th} {i : Nat} {p : Th} (h : xs[i]? = some p) : (flat xs)[i * 2 + 1]? = some (.int .i64 p.2) := by
  obtain ⟨u, v, e, hu, _⟩ := mid_of h
  rw [e, flat_app, flat_cons, List.getElem?_append_right (by rw [flat_len]; omega), flat_len, hu]
  simp
theorem flat_set {xs : List Th} {i : Nat} {p : Th} (r : Th) (h : xs[i]? = some p) : flat (xs.set i r) = ((flat xs).set (i * 2) (.int .i64 (r.1 : Int))).set (i * 2 + 1) (.int .i64 r.2) := by
  obtain ⟨u, v, e, hu, hs⟩ := mid_of h
  rw [hs, e, flat_app, flat_cons, flat_app, flat_cons]
  have hl : (flat u).length = i * 2 := by rw [flat_len, hu]
  rw [List.set_append_right _ _ (by omega), List.set_append_right _ _ (by omega), hl]
  simp
theorem flat_set1 {xs : List Th} {i : Nat} {p : Th} (k : Int) (h : xs[i]? = some p) : flat (xs.set i (p.1, k)) = (flat xs).set (i * 2 + 1) (.int .i64 k) := by
  obtain ⟨u, v, e, hu, hs⟩ := mid_of h
  rw [hs, e, flat_app, flat_cons, flat_app, flat_cons]
  have hl : (flat u).length = i * 2 := by rw [flat_len, hu]
  rw [List.set_append_right _ _ (by omega), hl]
  simp

theorem ownsRow_put {w w' : World} {base : Nat} {e : TypeId} {size : Nat} {v : Value} {n : Nat} {xs : List Value} (h : w.ownsRow base e size v n xs) (hk : ∀ k, v.ownBlock = some k → w'.heap[k]? = w.heap[k]?) : w'.ownsRow base e size v n xs := by
  refine ⟨h.1, ?_⟩
  rcases h.2 with h | ⟨g, cap, cur, rfl, h2, h3, h4⟩
  · exact .inl h
  · exact .inr ⟨g, cap, cur, rfl, h2, (hk g rfl).trans h3, h4⟩

/-- A heap of the program's: its own block B, the places' block G with room k, the slice v of things. -/
structure HM (w : World) (B G k N : Nat) (v : Value) (xs : List Th) (pl : List Int) : Prop where
  b : w.heap[B]? = some (.cells #[v, .slice (some ⟨G, 0, none⟩) N k] 63 (0, 0))
  h : w.ownsRow 0 80 2 v xs.length (flat xs)
  g : Row w G 3 (pl.map (Value.int .i64))
  bg : B ≠ G
  vb : v.ownBlock ≠ some B
  vg : v.ownBlock ≠ some G
  n1 : 1 ≤ N
  n2 : N ≤ 4096

/-- A heap's blocks. -/
def bks (B G : Nat) (v : Value) : List Nat := B :: G :: v.ownBlock.toList
theorem bks_B {B G : Nat} {v : Value} : B ∈ bks B G v := by simp [bks]
theorem bks_G {B G : Nat} {v : Value} : G ∈ bks B G v := by simp [bks]
theorem bks_v {B G : Nat} {v : Value} {k : Nat} (h : v.ownBlock = some k) : k ∈ bks B G v := by simp [bks, h]
theorem bks_out {B G : Nat} {v : Value} {k : Nat} (h : k ∈ bks B G v) : k = B ∨ k = G ∨ v.ownBlock = some k := by
  simp [bks] at h
  exact h

section
variable {w w' : World} {B G k N : Nat} {v : Value} {xs : List Th} {pl : List Int}
theorem HM.lt (h : HM w B G k N v xs pl) {x : Nat} (hx : x ∈ bks B G v) : x < w.heap.size := by
  rcases bks_out hx with rfl | rfl | hx
  · exact (Array.getElem?_eq_some_iff.1 h.b).1
  · exact h.g.lt
  · exact (h.h.lt x hx).2
theorem HM.put (h : HM w B G k N v xs pl) (hb : ∀ x ∈ bks B G v, w'.heap[x]? = w.heap[x]?) : HM w' B G k N v xs pl :=
  ⟨(hb B bks_B).trans h.b, ownsRow_put h.h (fun x hx => hb x (bks_v hx)), h.g.put (hb G bks_G), h.bg, h.vb, h.vg, h.n1, h.n2⟩
theorem HM.but {S : List Nat} (h : HM w B G k N v xs pl) (hb : But S w w') (hS : ∀ x ∈ bks B G v, x ∉ S) : HM w' B G k N v xs pl := h.put (fun x hx => hb.block x (h.lt hx) (hS x hx))
theorem HM.keep (h : HM w B G k N v xs pl) (hb : But [] w w') : HM w' B G k N v xs pl := h.but hb (by simp)
theorem HM.drew (h : HM w B G k N v xs pl) : HM w.drew B G k N v xs pl := h.keep (But.refl [] w).drew
theorem HM.c0 (h : HM w B G k N v xs pl) : w.cell? ⟨B, 0, none⟩ = some v := by simp [World.cell?, h.b]
theorem HM.c1 (h : HM w B G k N v xs pl) : w.cell? ⟨B, 1, none⟩ = some (.slice (some ⟨G, 0, none⟩) N k) := by simp [World.cell?, h.b]
theorem HM.fb (h : HM w B G k N v xs pl) (j : Nat) : w.frozen? ⟨B, j, none⟩ = false := by simp [World.frozen?, h.b]
theorem HM.x (h : HM w B G k N v xs pl) {j : Nat} {x : Int} (hx : pl[j]? = some x) : w.cell? ⟨G, j, none⟩ = some (.int .i64 x) := h.g.cell (by rw [List.getElem?_map, hx]; rfl)
/-- The slice of things. -/
theorem HM.sl (h : HM w B G k N v xs pl) : ∃ a c, v = .slice a xs.length c ∧ (0 < xs.length → ∃ H, a = some ⟨H, 0, none⟩ ∧ H ≠ B ∧ H ≠ G) ∧ xs.length ≤ c := by
  rcases h.h.2 with ⟨e, h0⟩ | ⟨g, cap, cur, e, _, _, hc, _⟩
  · exact ⟨none, 0, by rw [e, h0], fun hp => by omega, by omega⟩
  · exact ⟨_, cap, e, fun _ => ⟨g, rfl, fun e1 => h.vb (by rw [e, ← e1]; rfl), fun e1 => h.vg (by rw [e, ← e1]; rfl)⟩, hc⟩
section
variable {H c n : Nat}
theorem HM.t0 (h : HM w B G k N (.slice (some ⟨H, 0, none⟩) n c) xs pl) {i : Nat} {p : Th} (hp : xs[i]? = some p) : w.cell? ⟨H, i * 2, none⟩ = some (.int .i64 (p.1 : Int)) :=
  (h.h.cells rfl (i * 2) _ (flat_0 hp)).symm ▸ (by rw [WideShapes.add_plain, Nat.zero_add])
theorem HM.t1 (h : HM w B G k N (.slice (some ⟨H, 0, none⟩) n c) xs pl) {i : Nat} {p : Th} (hp : xs[i]? = some p) : w.cell? ⟨H, i * 2 + 1, none⟩ = some (.int .i64 p.2) :=
  (h.h.cells rfl (i * 2 + 1) _ (flat_1 hp)).symm ▸ (by rw [WideShapes.add_plain, Nat.zero_add])
theorem HM.ft (h : HM w B G k N (.slice (some ⟨H, 0, none⟩) n c) xs pl) (j : Nat) : w.frozen? ⟨H, j, none⟩ = false := by
  rcases h.h.2 with ⟨e, _⟩ | ⟨g, cap, cur, e, _, hg, _⟩
  · cases e
  · cases e
    simp [World.frozen?, hg]
end
end

/-- From w to w' only the blocks of T turned, and those of T' are of T, or new. -/
structure Step (T : List Nat) (w : World) (T' : List Nat) (w' : World) : Prop where
  but : But T w w'
  new : ∀ x ∈ T', x ∈ T ∨ w.heap.size ≤ x
theorem Step.refl (T : List Nat) (w : World) : Step T w T w := ⟨But.refl T w, fun _ h => .inl h⟩
theorem Step.trans {T T' T'' : List Nat} {a b c : World} (h : Step T a T' b) (k : Step T' b T'' c) : Step T a T'' c :=
  ⟨h.but.trans_new k.but h.new, fun x hx => (k.new x hx).elim (h.new x) (fun l => .inr (Nat.le_trans h.but.size l))⟩
theorem Step.same {T : List Nat} {w w' : World} (h : But T w w') : Step T w T w' := ⟨h, fun _ h => .inl h⟩
theorem Step.keep {T : List Nat} {w w' : World} (h : But [] w w') : Step T w T w' := Step.same h.wide
theorem Step.below {T : List Nat} {a b : World} (h : Step [] a T b) : Below a.heap.size a b := h.but.to_below
/-- Beside other blocks. -/
theorem Step.left {T T' : List Nat} {a b : World} (S : List Nat) (h : Step T a T' b) : Step (T ++ S) a (T' ++ S) b :=
  ⟨h.but.mono (fun x hx => by simp [hx]), fun x hx => by
    rcases List.mem_append.1 hx with hx | hx
    · exact (h.new x hx).imp (fun h => by simp [h]) id
    · exact .inl (by simp [hx])⟩
theorem Step.right {T T' : List Nat} {a b : World} (S : List Nat) (h : Step T a T' b) : Step (S ++ T) a (S ++ T') b :=
  ⟨h.but.mono (fun x hx => by simp [hx]), fun x hx => by
    rcases List.mem_append.1 hx with hx | hx
    · exact .inl (by simp [hx])
    · exact (h.new x hx).imp (fun h => by simp [h]) id⟩
/-- No block is of both. -/
def Disj (T S : List Nat) : Prop := ∀ x ∈ T, x ∉ S
theorem Disj.symm {T S : List Nat} (h : Disj T S) : Disj S T := fun x hx hy => h x hy hx
theorem Disj.step {T T' S : List Nat} {a b : World} (h : Disj T S) (k : Step T a T' b) (hS : ∀ x ∈ S, x < a.heap.size) : Disj T' S := fun x hx hs => (k.new x hx).elim (fun hx => h x hx hs) (fun l => by have := hS x hs; omega)

/-- A heap of the program's at B, with blocks T, of the ids below N, that stands for the sorted list q. -/
def HQ (w : World) (B : Nat) (T : List Nat) (N : Nat) (q : List Th) : Prop := ∃ G k v xs pl, T = bks B G v ∧ HM w B G k N v xs pl ∧ Rep N xs pl q

section
variable {w w' : World} {B N : Nat} {T : List Nat} {q : List Th}
theorem HQ.but {S : List Nat} (h : HQ w B T N q) (hb : But S w w') (hS : Disj T S) : HQ w' B T N q := by
  obtain ⟨G, k, v, xs, pl, rfl, hm, hr⟩ := h
  exact ⟨G, k, v, xs, pl, rfl, hm.but hb hS, hr⟩
theorem HQ.keep (h : HQ w B T N q) (hb : But [] w w') : HQ w' B T N q := h.but hb (by simp [Disj])
theorem HQ.below (h : HQ w B T N q) (hb : Below w.heap.size w w') : HQ w' B T N q := h.keep (.of_below hb)
theorem HQ.lt (h : HQ w B T N q) : ∀ x ∈ T, x < w.heap.size := by
  obtain ⟨G, k, v, xs, pl, rfl, hm, hr⟩ := h
  exact fun x hx => hm.lt hx
theorem HQ.mem (h : HQ w B T N q) : B ∈ T := by
  obtain ⟨G, k, v, xs, pl, rfl, hm, hr⟩ := h
  exact bks_B
theorem HQ.sizes (h : HQ w B T N q) : 1 ≤ N ∧ N ≤ 4096 ∧ q.length ≤ N := by
  obtain ⟨G, k, v, xs, pl, rfl, hm, hr⟩ := h
  exact ⟨hm.n1, hm.n2, hr.short⟩
theorem HQ.srt (h : HQ w B T N q) : Srt q := by
  obtain ⟨G, k, v, xs, pl, rfl, hm, hr⟩ := h
  exact hr.srt
theorem HQ.nd (h : HQ w B T N q) : (q.map (·.1)).Nodup := by
  obtain ⟨G, k, v, xs, pl, rfl, hm, hr⟩ := h
  exact hr.nd
theorem HQ.ids (h : HQ w B T N q) : ∀ p ∈ q, p.1 < N := by
  obtain ⟨G, k, v, xs, pl, rfl, hm, hr⟩ := h
  exact fun p hp => hr.lt hp
end

/-- Whether there is such an id. -/
def inN (n : Nat) (i : Int) : Bool := decide (0 ≤ i ∧ i < (n : Int))
theorem inN_out {n : Nat} {i : Int} (h : inN n i = true) : ∃ k : Nat, i = k ∧ k < n := by
  unfold inN at h
  simp at h
  exact ⟨i.toNat, by omega, by omega⟩
theorem inN_of {n k : Nat} (h : k < n) : inN n (k : Int) = true := by
  unfold inN
  simp
  exact h

end Go.Proofs.YtlnfabjgcecebaaGreat.Hp
namespace Go.Proofs.YtlnfabjgcecebaaGreat.Hp
open Go.RowKit

theorem over_any (i : Nat) (h0 : 0 < i) (hi : i ≤ 4096) (w : World) :
    Calls Tryz.prog 87 #[.int .i64 i] w fun e w' => e = .returned (.int .i64 (par i : Nat)) ∧ w' = w := by
  have e1 : ((i : Int) - 1).tdiv 2 = (par i : Nat) := by
    unfold par
    obtain ⟨j, rfl⟩ : ∃ j, i = j + 1 := ⟨i - 1, by omega⟩
    rw [show ((j + 1 : Nat) : Int) - 1 = (j : Int) by omega, Int.tdiv_eq_ediv_of_nonneg (by omega)]
    omega
  have hp : par i ≤ 4096 := by have := par_lt h0; omega
  have e2 : wrap64 (par i : Nat) = (par i : Nat) := by
    rw [wrap64]
    omega
  generalize par i = y at *
  go_enter Tryz.func87, Tryz.ntmps87
  go_wp2_with fail
  go_ret
  exact ⟨rfl, rfl⟩

theorem before_any (a b : Th) (w : World) :
    Calls Tryz.prog 100 #[.agg #[.int .i64 (a.1 : Int), .int .i64 a.2], .agg #[.int .i64 (b.1 : Int), .int .i64 b.2]] w fun e w' => e = .returned (.bool (befB a b)) ∧ Below w.heap.size w w' := by
  obtain ⟨i, x⟩ := a
  obtain ⟨j, y⟩ := b
  dsimp only
  have hB : Below w.heap.size w ((w.alloc (.cells #[.int .i64 (i : Int), .int .i64 x] 80)).alloc (.cells #[.int .i64 (j : Int), .int .i64 y] 80)) := ((Below.refl _ w).alloc (Nat.le_refl _) _).alloc (by simp) _
  rcases Int.lt_trichotomy x y with h | rfl | h
  · have e : befB (i, x) (j, y) = true := befB_iff.2 (.inl h)
    rw [e]
    go_enter Tryz.func100, Tryz.ntmps100
    go_wp2_with fail
    go_ret
    exact ⟨rfl, hB⟩
  · have e : befB (i, x) (j, x) = decide (i < j) := by simp [befB]
    rw [e]
    go_enter Tryz.func100, Tryz.ntmps100
    go_wp2_with fail
    go_ret
    exact ⟨rfl, hB⟩
  · have e : befB (i, x) (j, y) = false := befB_le (a := (j, y)) (b := (i, x)) (befB_iff.2 (.inl h))
    have h1 : ¬ x < y := by omega
    have h2 : (x == y) = false := by simp; omega
    rw [e]
    go_enter Tryz.func100, Tryz.ntmps100
    go_wp2_with fail
    go_ret
    exact ⟨rfl, hB⟩

section
variable {w : World} {B G k N : Nat} {v : Value} {xs : List Th} {pl : List Int}

theorem made_any (h : HM w B G k N v xs pl) :
    Calls Tryz.prog 61 #[.pointer (some ⟨B, 0, none⟩)] w fun e w' => e = .returned (.bool true) ∧ w' = w := by
  have c1 := h.c1
  have hp : 0 < N := h.n1
  go_enter Tryz.func61, Tryz.ntmps61
  go_wp2_with fail
  go_ret
  exact ⟨rfl, rfl⟩

theorem len_any (h : HM w B G k N v xs pl) :
    Calls Tryz.prog 68 #[.pointer (some ⟨B, 0, none⟩)] w fun e w' => e = .returned (.int .i64 (xs.length : Nat)) ∧ w' = w := by
  obtain ⟨a, c, rfl, _⟩ := h.sl
  have c0 := h.c0
  have hM := made_any h
  go_enter Tryz.func68, Tryz.ntmps68
  go_wp2_with (first
    | (go_at_call 61; refine hM.mono ?_; rintro e w' ⟨rfl, hw⟩; subst w'))
  go_ret
  exact ⟨rfl, rfl⟩
end

end Go.Proofs.YtlnfabjgcecebaaGreat.Hp
namespace Go.Proofs.YtlnfabjgcecebaaGreat.Hp
open Go.RowKit

theorem cells60 : Tryz.prog.cellsOf 80 = 2 := by kernel_rfl

section
variable {w : World} {B G k N : Nat} {v : Value} {xs : List Th} {pl : List Int}

/-- The cells that are read. -/
theorem cells_on {W W' : World} (hb : Below W.heap.size W W') {a0 a1 a2 a3 a4 : Addr} {v0 v1 v2 v3 v4 : Value} (h : W.cell? a0 = some v0 ∧ W.cell? a1 = some v1 ∧ W.cell? a2 = some v2 ∧ W.cell? a3 = some v3 ∧ W.cell? a4 = some v4) : W'.cell? a0 = some v0 ∧ W'.cell? a1 = some v1 ∧ W'.cell? a2 = some v2 ∧ W'.cell? a3 = some v3 ∧ W'.cell? a4 = some v4 :=
  ⟨cell_on hb h.1, cell_on hb h.2.1, cell_on hb h.2.2.1, cell_on hb h.2.2.2.1, cell_on hb h.2.2.2.2⟩

set_option maxHeartbeats 1000000 in
theorem ahead_any (h : HM w B G k N v xs pl) {i j : Nat} {a b : Th} (ha : xs[i]? = some a) (hb : xs[j]? = some b) :
    Calls Tryz.prog 86 #[.pointer (some ⟨B, 0, none⟩), .int .i64 i, .int .i64 j] w fun e w' => e = .returned (.bool (befB a b)) ∧ Below w.heap.size w w' := by
  have hi := (List.getElem?_eq_some_iff.1 ha).1
  have hj := (List.getElem?_eq_some_iff.1 hb).1
  obtain ⟨sa, c, rfl, hs, _⟩ := h.sl
  obtain ⟨H, rfl, _⟩ := hs (by omega)
  have hS : w.cell? ⟨B, 0, none⟩ = some (.slice (some ⟨H, 0, none⟩) xs.length c) ∧ w.cell? ⟨H, i * 2, none⟩ = some (.int .i64 (a.1 : Int)) ∧ w.cell? ⟨H, i * 2 + 1, none⟩ = some (.int .i64 a.2) ∧ w.cell? ⟨H, j * 2, none⟩ = some (.int .i64 (b.1 : Int)) ∧ w.cell? ⟨H, j * 2 + 1, none⟩ = some (.int .i64 b.2) := ⟨h.c0, h.t0 ha, h.t1 ha, h.t0 hb, h.t1 hb⟩
  have hSd := cells_on ((Below.refl _ w).drew) hS
  have BF := before_any a b
  have c60 := cells60
  have hi' : (i : Int) < (xs.length : Int) := by omega
  have hj' : (j : Int) < (xs.length : Int) := by omega
  have hi0 : (0 : Int) ≤ (i : Int) := by omega
  have hj0 : (0 : Int) ≤ (j : Int) := by omega
  generalize befB a b = y at *
  clear h
  go_enter Tryz.func86, Tryz.ntmps86
  go_wp2_with fail
  go_region_held3 (fun w' => w'.cell? ⟨B, 0, none⟩ = some (.slice (some ⟨H, 0, none⟩) xs.length c) ∧ w'.cell? ⟨H, i * 2, none⟩ = some (.int .i64 (a.1 : Int)) ∧ w'.cell? ⟨H, i * 2 + 1, none⟩ = some (.int .i64 a.2) ∧ w'.cell? ⟨H, j * 2, none⟩ = some (.int .i64 (b.1 : Int)) ∧ w'.cell? ⟨H, j * 2 + 1, none⟩ = some (.int .i64 b.2)) (first | with_reducible assumption | with_reducible exact hSd) (first
    | (go_at_call 100; refine (BF _).mono ?_; rintro e w1 ⟨rfl, b1⟩; have hS1 := cells_on b1 hSd))
  all_goals
    go_wp2_with fail
    go_ret
    exact ⟨rfl, (Below.refl _ w).drew.trans b1⟩

end

end Go.Proofs.YtlnfabjgcecebaaGreat.Hp
namespace Go.Proofs.YtlnfabjgcecebaaGreat.Hp
open Go.RowKit

/-- What ask tells. -/
def askE (N : Nat) (q : List Th) (t : Int) (there : Bool) (last : Int) : Int := if inN N t then (if hasB q t = there then 0 else last) else 8

section
variable {w : World} {B G k N : Nat} {v : Value} {xs : List Th} {pl : List Int} {q : List Th}

theorem has_any (h : HM w B G k N v xs pl) (hr : Rep N xs pl q) (t : Int) :
    Calls Tryz.prog 88 #[.pointer (some ⟨B, 0, none⟩), .int .i64 t] w fun e w' => e = .returned (.bool (hasB q t)) ∧ w' = w := by
  have hM := made_any h
  have c1 := h.c1
  by_cases h0 : t < 0
  · have e : hasB q t = false := hasB_not.2 (fun p hp => by omega)
    rw [e]
    go_enter Tryz.func88, Tryz.ntmps88
    go_wp2_with (first
      | (go_at_call 61; refine hM.mono ?_; rintro e w' ⟨rfl, hw⟩; subst w'))
    go_ret
    exact ⟨rfl, rfl⟩
  · by_cases h1 : (N : Int) ≤ t
    · have e : hasB q t = false := hasB_not.2 (fun p hp => by have := hr.lt hp; omega)
      rw [e]
      have h0' : 0 ≤ t := by omega
      go_enter Tryz.func88, Tryz.ntmps88
      go_wp2_with (first
        | (go_at_call 61; refine hM.mono ?_; rintro e w' ⟨rfl, hw⟩; subst w'))
      go_ret
      exact ⟨rfl, rfl⟩
    · obtain ⟨id, rfl⟩ : ∃ id : Nat, t = id := ⟨t.toNat, by omega⟩
      have hid : id < N := by omega
      have hid' : (id : Int) < (N : Int) := by omega
      cases hb : hasB q (id : Int) with
      | false =>
        have cx := h.x (hr.no hid hb)
        go_enter Tryz.func88, Tryz.ntmps88
        go_wp2_with (first
          | (go_at_call 61; refine hM.mono ?_; rintro e w' ⟨rfl, hw⟩; subst w'))
        go_ret
        exact ⟨rfl, rfl⟩
      | true =>
        obtain ⟨id', i, key, e, _, _, hp, _⟩ := hr.at' hb
        obtain rfl : id = id' := by omega
        have cx := h.x hp
        have hne : ((i : Int) == -1) = false := by simp
        clear hp e
        go_enter Tryz.func88, Tryz.ntmps88
        go_wp2_with (first
          | (go_at_call 61; refine hM.mono ?_; rintro e w' ⟨rfl, hw⟩; subst w'))
        go_ret
        exact ⟨rfl, rfl⟩

theorem ask_any (h : HM w B G k N v xs pl) (hr : Rep N xs pl q) (t : Int) (there : Bool) (last : Int) :
    Calls Tryz.prog 78 #[.pointer (some ⟨B, 0, none⟩), .int .i64 t, .bool there, .int .i64 last] w fun e w' => e = .returned (.int .i64 (askE N q t there last)) ∧ w' = w := by
  have hM := made_any h
  have hH := has_any h hr t
  have c1 := h.c1
  unfold askE inN
  by_cases h0 : t < 0
  · rw [if_neg (by simp; omega)]
    go_enter Tryz.func78, Tryz.ntmps78
    go_wp2_with (first
      | (go_at_call 61; refine hM.mono ?_; rintro e w' ⟨rfl, hw⟩; subst w'))
    go_ret
    exact ⟨rfl, rfl⟩
  · have h0' : 0 ≤ t := by omega
    by_cases h1 : (N : Int) ≤ t
    · rw [if_neg (by simp; omega)]
      go_enter Tryz.func78, Tryz.ntmps78
      go_wp2_with (first
        | (go_at_call 61; refine hM.mono ?_; rintro e w' ⟨rfl, hw⟩; subst w'))
      go_ret
      exact ⟨rfl, rfl⟩
    · rw [if_pos (by simp; omega)]
      have h1' : t < (N : Int) := by omega
      generalize hasB q t = y at *
      cases y <;> cases there
      all_goals
        go_enter Tryz.func78, Tryz.ntmps78
        go_wp2_with (first
          | (go_at_call 61; refine hM.mono ?_; rintro e w' ⟨rfl, hw⟩; subst w')
          | (go_at_call 88; refine hH.mono ?_; rintro e w' ⟨rfl, hw⟩; subst w'))
        go_ret
        exact ⟨rfl, rfl⟩

/-- The least place under a place, or itself. -/
def und (xs : List Th) (i : Nat) : Nat := if xs.length ≤ 2 * i + 1 then i else if 2 * i + 2 < xs.length ∧ befB (gx xs (2 * i + 2)) (gx xs (2 * i + 1)) = true then 2 * i + 2 else 2 * i + 1

set_option maxHeartbeats 1000000 in
theorem under_any (h : HM w B G k N v xs pl) (i : Nat) (hi : i < xs.length) (hn : xs.length ≤ 4096) :
    Calls Tryz.prog 103 #[.pointer (some ⟨B, 0, none⟩), .int .i64 i, .func (.func 86) #[.pointer (some ⟨B, 0, none⟩)] #[]] w fun e w' => e = .returned (.int .i64 (und xs i : Nat)) ∧ Below w.heap.size w w' := by
  have HA : ∀ a b : Nat, a < xs.length → b < xs.length → _ := fun a b ha hb => ahead_any h (i := a) (j := b) (gx_get ha) (gx_get hb)
  obtain ⟨sa, c, rfl, _, _⟩ := h.sl
  have c0 := h.c0
  unfold und
  by_cases h1 : xs.length ≤ 2 * i + 1
  · rw [if_pos h1]
    have h1' : (xs.length : Int) ≤ 2 * (i : Int) + 1 := by omega
    clear HA
    go_enter Tryz.func103, Tryz.ntmps103
    go_wp2_with fail
    go_ret
    exact ⟨rfl, Below.refl _ _⟩
  · rw [if_neg h1]
    have h1' : 2 * (i : Int) + 1 < (xs.length : Int) := by omega
    by_cases h2 : 2 * i + 2 < xs.length
    · have HA1 := HA (2 * i + 2) (2 * i + 1) h2 (by omega)
      rw [show ((2 * i + 2 : Nat) : Int) = 2 * (i : Int) + 2 by omega, show ((2 * i + 1 : Nat) : Int) = 2 * (i : Int) + 1 by omega] at HA1
      clear HA
      generalize befB (gx xs (2 * i + 2)) (gx xs (2 * i + 1)) = y at *
      have h2' : 2 * (i : Int) + 2 < (xs.length : Int) := by omega
      cases y with
      | true =>
        rw [if_pos ⟨h2, rfl⟩]
        go_enter Tryz.func103, Tryz.ntmps103
        go_wp2_with (first
          | (go_at_call 86; refine HA1.mono ?_; rintro e w1 ⟨rfl, b1⟩))
        go_ret
        exact ⟨by simp, b1⟩
      | false =>
        rw [if_neg (fun e => by cases e.2)]
        go_enter Tryz.func103, Tryz.ntmps103
        go_wp2_with (first
          | (go_at_call 86; refine HA1.mono ?_; rintro e w1 ⟨rfl, b1⟩))
        go_ret
        exact ⟨by simp, b1⟩
    · rw [if_neg (fun e => h2 e.1)]
      have h2' : (xs.length : Int) ≤ 2 * (i : Int) + 2 := by omega
      clear HA
      go_enter Tryz.func103, Tryz.ntmps103
      go_wp2_with fail
      go_ret
      exact ⟨by simp, Below.refl _ _⟩
end

end Go.Proofs.YtlnfabjgcecebaaGreat.Hp
