/- Two heaps beside each other; a key changed, a thing taken out. -/
import Derived.Test.YtmogedfjhbfglaaFill
import Derived.Test.YtmogedfjhbfglaaCopy
namespace Go.Proofs.Ytmogedfjhbfglaa
open Go.RowKit

/-- Two heaps of the program's, with no block in common. -/
structure Two (W0 w : World) (B1 : Nat) (T1 : List Nat) (B2 : Nat) (T2 : List Nat) (N : Nat) (q1 q2 : List Th) : Prop where
  a : HQ w B1 T1 N q1
  b : HQ w B2 T2 N q2
  d : Disj T1 T2
  s : Step [] W0 (T1 ++ T2) w
section
variable {W0 w w' : World} {B1 B2 N : Nat} {T1 T2 T' : List Nat} {q1 q2 q' : List Th}
theorem Two.left (h : Two W0 w B1 T1 B2 T2 N q1 q2) (h' : HQ w' B1 T' N q') (s : Step T1 w T' w') : Two W0 w' B1 T' B2 T2 N q' q2 :=
  ⟨h', h.b.but s.but h.d.symm, h.d.step s h.b.lt, h.s.trans (s.left T2)⟩
theorem Two.right (h : Two W0 w B1 T1 B2 T2 N q1 q2) (h' : HQ w' B2 T' N q') (s : Step T2 w T' w') : Two W0 w' B1 T1 B2 T' N q1 q' :=
  ⟨h.a.but s.but h.d, h', (h.d.symm.step s h.a.lt).symm, h.s.trans (s.right T1)⟩
theorem Two.keep (h : Two W0 w B1 T1 B2 T2 N q1 q2) (hb : But [] w w') : Two W0 w' B1 T1 B2 T2 N q1 q2 := ⟨h.a.keep hb, h.b.keep hb, h.d, h.s.trans (Step.keep hb)⟩
theorem Two.new {w1 w2 : World} (h1 : HQ w1 B1 T1 N []) (s1 : Step [] W0 T1 w1) (h2 : HQ w2 B2 T2 N []) (s2 : Step [] w1 T2 w2) : Two W0 w2 B1 T1 B2 T2 N [] [] := by
  refine ⟨h1.keep s2.but, h2, fun x hx hy => ?_, s1.but.trans s2.but, fun x hx => .inr ?_⟩
  · have := h1.lt x hx
    rcases s2.new x hy with e | e
    · cases e
    · omega
  · rcases List.mem_append.1 hx with hx | hx
    · rcases s1.new x hx with e | e
      · cases e
      · exact e
    · rcases s2.new x hx with e | e
      · cases e
      · exact Nat.le_trans s1.but.size e
end

/-- With another key at one id. -/
def fp (a : Nat) (key : Int) (p : Th) : Th := (p.1, if p.1 = a then key else p.2)
/-- Those that are put into the other heap: but for id b, with another key at id a. -/
def chL (a b : Nat) (key : Int) (q : List Th) : List Th := (q.map (fp a key)).filter (fun p => !((p.1 : Int) == (b : Int)))
theorem chL_nil (a b : Nat) (key : Int) : chL a b key [] = [] := rfl
theorem chL_snoc (a b : Nat) (key : Int) (q : List Th) (j : Nat) (k : Int) : chL a b key (q ++ [(j, k)]) = chL a b key q ++ (if j = b then [] else [(j, if j = a then key else k)]) := by
  unfold chL
  rw [List.map_append, List.filter_append]
  congr 1
  by_cases e : j = b
  · subst e
    simp [fp]
  · rw [if_neg e]
    have e' : ¬ (j : Int) = (b : Int) := by omega
    simp [fp, e']
theorem chL_ids {a b : Nat} {key : Int} {q : List Th} {p : Th} (h : p ∈ chL a b key q) : ∃ r ∈ q, p.1 = r.1 := by
  unfold chL at h
  rw [List.mem_filter] at h
  obtain ⟨r, hr, rfl⟩ := List.mem_map.1 h.1
  exact ⟨r, hr, rfl⟩
theorem mid_mem {q : List Th} {a : Nat} {k : Int} (hn : (q.map (·.1)).Nodup) (h : (a, k) ∈ q) (key : Int) : ((a, key) :: remq q (a : Int)).Perm (q.map (fp a key)) := by
  obtain ⟨u, v, rfl⟩ := List.append_of_mem h
  rw [List.map_append, List.map_cons, List.nodup_append] at hn
  obtain ⟨h1, h2, h3⟩ := hn
  have hu : ∀ p ∈ u, p.1 ≠ a := fun p hp e => h3 p.1 (List.mem_map.2 ⟨p, hp, rfl⟩) a (by simp) e
  have hv : ∀ p ∈ v, p.1 ≠ a := fun p hp e => (List.nodup_cons.1 h2).1 (e ▸ List.mem_map.2 ⟨p, hp, rfl⟩)
  have e1 : remq (u ++ (a, k) :: v) (a : Int) = u ++ v := by
    unfold remq
    rw [List.filter_append, List.filter_cons_of_neg (by simp)]
    have f1 : u.filter (fun p => !((p.1 : Int) == (a : Int))) = u := List.filter_eq_self.2 (fun p hp => by have := hu p hp; simp; omega)
    have f2 : v.filter (fun p => !((p.1 : Int) == (a : Int))) = v := List.filter_eq_self.2 (fun p hp => by have := hv p hp; simp; omega)
    rw [f1, f2]
  have g : ∀ l : List Th, (∀ p ∈ l, p.1 ≠ a) → l.map (fp a key) = l := fun l hl => by
    conv => rhs; rw [← List.map_id l]
    refine List.map_congr_left (fun p hp => ?_)
    simp [fp, hl p hp]
  rw [e1, List.map_append, List.map_cons, g u hu, g v hv]
  have : fp a key (a, k) = (a, key) := by simp [fp]
  rw [this]
  exact List.perm_middle.symm
theorem changed {q1 q2 : List Th} {a b : Nat} {k key : Int} (hs1 : Srt q1) (hs2 : Srt q2) (hn : (q1.map (·.1)).Nodup) (h : (a, k) ∈ q1) (h2 : q2.Perm (chL a b key q1)) : remq (insq (a, key) (remq q1 (a : Int))) (b : Int) = q2 := by
  refine Srt.uniq (remq_srt (insq_srt _ (remq_srt hs1 _) (fun p hp e => (remq_not hp).2 (by simp [e]))) _) hs2 ?_
  refine List.Perm.trans ?_ h2.symm
  exact ((insq_perm _ _).trans (mid_mem hn h key)).filter _
end Go.Proofs.Ytmogedfjhbfglaa
