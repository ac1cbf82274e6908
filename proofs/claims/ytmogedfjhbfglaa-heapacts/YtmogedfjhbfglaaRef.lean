/- The reference's heap in memory; contracts of its New, find, Least, Key. -/
import Derived.Test.YtmogedfjhbfglaaCopy
namespace Go.Proofs.Ytmogedfjhbfglaa
open Go.RowKit

/-- The keys in order. -/
def keysL (q : List Th) : List Int := q.map (·.2)
theorem keysL_len (q : List Th) : (keysL q).length = q.length := by simp [keysL]
theorem idsL_get {q : List Th} {i : Nat} {p : Th} (h : q[i]? = some p) : (idsL q)[i]? = some (p.1 : Int) := by simp [idsL, h]
theorem keysL_get {q : List Th} {i : Nat} {p : Th} (h : q[i]? = some p) : (keysL q)[i]? = some p.2 := by simp [keysL, h]

/-- A heap of the reference's: its own block M, the slices of ids and of keys. -/
structure RM (w : World) (M N : Nat) (vi vk : Value) (q : List Th) : Prop where
  b : w.heap[M]? = some (.cells #[.int .i64 N, vi, vk] 34 (0, 0))
  i : RowI w 0 vi (idsL q)
  k : RowI w 0 vk (keysL q)
  mi : vi.ownBlock ≠ some M
  mk' : vk.ownBlock ≠ some M
  n1 : 1 ≤ N
  n2 : N ≤ 4096
  l : q.length ≤ N
def rbs (M : Nat) (vi vk : Value) : List Nat := M :: (vi.ownBlock.toList ++ vk.ownBlock.toList)
theorem rbs_out {M : Nat} {vi vk : Value} {x : Nat} (h : x ∈ rbs M vi vk) : x = M ∨ vi.ownBlock = some x ∨ vk.ownBlock = some x := by
  simp [rbs] at h
  exact h
theorem rbs_M {M : Nat} {vi vk : Value} : M ∈ rbs M vi vk := by simp [rbs]
theorem rbs_i {M : Nat} {vi vk : Value} {x : Nat} (h : vi.ownBlock = some x) : x ∈ rbs M vi vk := by simp [rbs, h]
theorem rbs_k {M : Nat} {vi vk : Value} {x : Nat} (h : vk.ownBlock = some x) : x ∈ rbs M vi vk := by simp [rbs, h]

section
variable {w w' : World} {M N : Nat} {vi vk : Value} {q : List Th}
theorem RowI.put' {base : Nat} {v : Value} {xs : List Int} (h : RowI w base v xs) (hk : ∀ k, v.ownBlock = some k → w'.heap[k]? = w.heap[k]?) : RowI w' base v xs := ownsRow_put h hk
theorem RM.lt (h : RM w M N vi vk q) {x : Nat} (hx : x ∈ rbs M vi vk) : x < w.heap.size := by
  rcases rbs_out hx with rfl | hx | hx
  · exact (Array.getElem?_eq_some_iff.1 h.b).1
  · exact (World.ownsRow.lt h.i x hx).2
  · exact (World.ownsRow.lt h.k x hx).2
theorem RM.put (h : RM w M N vi vk q) (hb : ∀ x ∈ rbs M vi vk, w'.heap[x]? = w.heap[x]?) : RM w' M N vi vk q :=
  ⟨(hb M rbs_M).trans h.b, h.i.put' (fun x hx => hb x (rbs_i hx)), h.k.put' (fun x hx => hb x (rbs_k hx)), h.mi, h.mk', h.n1, h.n2, h.l⟩
theorem RM.but {S : List Nat} (h : RM w M N vi vk q) (hb : But S w w') (hS : ∀ x ∈ rbs M vi vk, x ∉ S) : RM w' M N vi vk q := h.put (fun x hx => hb.block x (h.lt hx) (hS x hx))
theorem RM.keep (h : RM w M N vi vk q) (hb : But [] w w') : RM w' M N vi vk q := h.but hb (by simp)
theorem RM.c0 (h : RM w M N vi vk q) : w.cell? ⟨M, 0, none⟩ = some (.int .i64 N) := by simp [World.cell?, h.b]
theorem RM.c1 (h : RM w M N vi vk q) : w.cell? ⟨M, 1, none⟩ = some vi := by simp [World.cell?, h.b]
theorem RM.c2 (h : RM w M N vi vk q) : w.cell? ⟨M, 2, none⟩ = some vk := by simp [World.cell?, h.b]
theorem RM.fz (h : RM w M N vi vk q) (j : Nat) : w.frozen? ⟨M, j, none⟩ = false := by simp [World.frozen?, h.b]
theorem RM.si (h : RM w M N vi vk q) : ∃ a c, vi = .slice a q.length c ∧ IntsR w a (idsL q) ∧ q.length ≤ c := by
  obtain ⟨a, c, e, hc, _, _, hx⟩ := h.i.shape
  rw [idsL_len] at e hc
  exact ⟨a, c, e, hx, hc⟩
theorem RM.sk (h : RM w M N vi vk q) : ∃ a c, vk = .slice a q.length c ∧ IntsR w a (keysL q) ∧ q.length ≤ c := by
  obtain ⟨a, c, e, hc, _, _, hx⟩ := h.k.shape
  rw [keysL_len] at e hc
  exact ⟨a, c, e, hx, hc⟩
end

/-- A heap of the reference's at M, with blocks R, that has the list q. -/
def RQ (w : World) (M : Nat) (R : List Nat) (N : Nat) (q : List Th) : Prop := ∃ vi vk, R = rbs M vi vk ∧ RM w M N vi vk q
section
variable {w w' : World} {M N : Nat} {R : List Nat} {q : List Th}
theorem RQ.but {S : List Nat} (h : RQ w M R N q) (hb : But S w w') (hS : Disj R S) : RQ w' M R N q := by
  obtain ⟨vi, vk, rfl, h⟩ := h
  exact ⟨vi, vk, rfl, h.but hb hS⟩
theorem RQ.keep (h : RQ w M R N q) (hb : But [] w w') : RQ w' M R N q := h.but hb (by simp [Disj])
theorem RQ.below (h : RQ w M R N q) (hb : Below w.heap.size w w') : RQ w' M R N q := h.keep (.of_below hb)
theorem RQ.lt (h : RQ w M R N q) : ∀ x ∈ R, x < w.heap.size := by
  obtain ⟨vi, vk, rfl, h⟩ := h
  exact fun x hx => h.lt hx
end

theorem rnew_none (a : Int) (hm : inN 4096 (a - 1) = false) (w : World) :
    Calls Try.prog 10 #[.int .i64 a] w fun e w' => e = .returned (.pointer none) ∧ w' = w := by
  unfold inN at hm
  simp at hm
  by_cases h1 : a < 1
  · go_enter Try.func10, Try.ntmps10
    go_wp2_with fail
    go_ret
    exact ⟨rfl, rfl⟩
  · have h2 : 4096 < a := by omega
    go_enter Try.func10, Try.ntmps10
    go_wp2_with fail
    go_ret
    exact ⟨rfl, rfl⟩

theorem rnew_some (N : Nat) (h1 : 1 ≤ N) (h2 : N ≤ 4096) (w : World) :
    Calls Try.prog 10 #[.int .i64 N] w fun e w' => ∃ M R, e = .returned (.pointer (some ⟨M, 0, none⟩)) ∧ RQ w' M R N [] ∧ Step [] w R w' := by
  have a1 : (1 : Int) ≤ (N : Int) := by omega
  have a2 : (N : Int) ≤ 4096 := by omega
  go_enter Try.func10, Try.ntmps10
  go_wp2_with fail
  go_ret
  refine ⟨w.heap.size, _, rfl, ⟨.slice none 0 0, .slice none 0 0, rfl, heap_alloc_new w _, World.ownsRow_nil _ _ _ _, World.ownsRow_nil _ _ _ _, (fun e => by cases e), (fun e => by cases e), h1, h2, by simp⟩, (But.refl [] w).alloc _, fun x hx => .inr ?_⟩
  rcases rbs_out hx with rfl | hx | hx
  · exact Nat.le_refl _
  · cases hx
  · cases hx

/-- The first place of an id, from place k on. -/
def findF : List Th → Int → Int → Int
  | [], _, _ => -1
  | p :: r, t, k => if (p.1 : Int) = t then k else findF r t (k + 1)
def findI (q : List Th) (t : Int) : Int := findF q t 0
theorem findF_step {q : List Th} {i : Nat} {p : Th} (h : q[i]? = some p) (t : Int) : findF (q.drop i) t i = if (p.1 : Int) = t then (i : Int) else findF (q.drop (i + 1)) t ((i + 1 : Nat) : Int) := by
  obtain ⟨hi, e⟩ := List.getElem?_eq_some_iff.1 h
  rw [List.drop_eq_getElem_cons hi, findF, e]
  simp
theorem findF_none : ∀ {q : List Th} {t k : Int}, hasB q t = false → findF q t k = -1
  | [], _, _, _ => rfl
  | p :: r, t, k, h => by
    unfold findF
    rw [if_neg (hasB_not.1 h p (by simp))]
    exact findF_none (hasB_not.2 (fun a ha => hasB_not.1 h a (by simp [ha])))
theorem findF_some : ∀ {q : List Th} {t : Int} {k : Nat}, hasB q t = true → ∃ (i : Nat) (p : Th), findF q t k = ((k + i : Nat) : Int) ∧ q[i]? = some p ∧ (p.1 : Int) = t ∧ keyV q t = p.2
  | [], _, _, h => by simp [hasB] at h
  | p :: r, t, k, h => by
    by_cases e : (p.1 : Int) = t
    · refine ⟨0, p, ?_, rfl, e, ?_⟩
      · unfold findF
        rw [if_pos e]
        simp
      · unfold keyV
        rw [List.find?_cons_of_pos (by simp [e])]
        rfl
    · have h' : hasB r t = true := by
        obtain ⟨a, ha, ea⟩ := hasB_iff.1 h
        rcases List.mem_cons.1 ha with rfl | ha
        · exact absurd ea e
        · exact hasB_iff.2 ⟨a, ha, ea⟩
      obtain ⟨i, a, h1, h2, h3, h4⟩ := findF_some (k := k + 1) h'
      refine ⟨i + 1, a, ?_, by simpa using h2, h3, ?_⟩
      · unfold findF
        rw [if_neg e]
        rw [show (k : Int) + 1 = ((k + 1 : Nat) : Int) by omega, h1]
        omega
      · rw [← h4]
        unfold keyV
        rw [List.find?_cons_of_neg (by simp [e])]
theorem findI_some {q : List Th} {t : Int} (h : hasB q t = true) : ∃ (i : Nat) (p : Th), findI q t = (i : Int) ∧ q[i]? = some p ∧ (p.1 : Int) = t ∧ keyV q t = p.2 := by
  obtain ⟨i, p, h1, h2⟩ := findF_some (k := 0) h
  exact ⟨i, p, by rw [findI]; simpa using h1, h2⟩
theorem findI_none {q : List Th} {t : Int} (h : hasB q t = false) : findI q t = -1 := findF_none h

section
variable {w : World} {M N : Nat} {R : List Nat} {q : List Th}

set_option maxHeartbeats 1000000 in
theorem rfind_any (h : RQ w M R N q) (t : Int) :
    Calls Try.prog 35 #[.pointer (some ⟨M, 0, none⟩), .int .i64 t] w fun e w' => e = .returned (.int .i64 (findI q t)) ∧ w' = w := by
  obtain ⟨vi, vk, rfl, h⟩ := h
  have hl := Nat.le_trans h.l h.n2
  obtain ⟨a, c, rfl, hi, -⟩ := h.si
  have c1 := h.c1
  have hf : findI q t = findF (q.drop 0) t 0 := rfl
  generalize findI q t = y at *
  go_enter Try.func35, Try.ntmps35
  go_wp2_with fail
  go_loopw [12, 5, 6] (fun v _ _ wr => ∃ i : Nat, i ≤ q.length ∧ v = .int .i64 i ∧ wr = w ∧ Hid (y = findF (q.drop i) t i)) (fun v _ _ _ => 4096 - (intOf v).toNat)
  case atStart => exact ⟨0, by omega, rfl, rfl, hf⟩
  case round =>
    clear hf
    obtain ⟨i, hil, rfl, hw, hf⟩ := hrel
    subst wr
    by_cases hlt : i < q.length
    · have hx : q[i]? = some q[i] := List.getElem?_eq_getElem hlt
      obtain ⟨g, rfl, cx⟩ := hi i _ (idsL_get hx)
      have hs := findF_step hx t
      rw [← hf.out] at hs
      have HS : Hid (y = if (q[i].1 : Int) = t then (i : Int) else findF (q.drop (i + 1)) t ((i + 1 : Nat) : Int)) := hs
      clear hs hf hx
      generalize (q[i].1 : Int) = x at *
      have hlt' : (i : Int) < (q.length : Int) := by omega
      by_cases hxt : x = t
      · have HY : Hid (y = (i : Int)) := by have := HS.out; rw [if_pos hxt] at this; exact this
        subst hxt
        clear HS hi
        go_wp2_with fail
        go_ret
        exact ⟨by rw [HY.out]; rfl, rfl⟩
      · have HY : Hid (y = findF (q.drop (i + 1)) t ((i + 1 : Nat) : Int)) := by have := HS.out; rw [if_neg hxt] at this; exact this
        have hxt' : (x == t) = false := by simpa using hxt
        clear HS hi
        go_wp2_with fail
        go_roundw
        case rel => exact ⟨i + 1, by omega, by simp, trivial, HY⟩
        case measure =>
          simp [intOf]
          omega
    · obtain rfl : i = q.length := by omega
      have HY : Hid (y = -1) := by
        have := hf.out
        rw [List.drop_eq_nil_of_le (Nat.le_refl _)] at this
        exact this
      clear hf
      go_wp2_with fail
      go_ret
      exact ⟨by rw [HY.out]; rfl, rfl⟩

theorem rleast_any (h : RQ w M R N q) :
    Calls Try.prog 15 #[.pointer (some ⟨M, 0, none⟩)] w fun e w' => e = .returned (.tuple #[.int .i64 (fstI q), .int .i64 (fstK q), .bool (fstB q)]) ∧ Drawn w w' := by
  obtain ⟨vi, vk, rfl, h⟩ := h
  obtain ⟨ai, ci, rfl, hi, -⟩ := h.si
  obtain ⟨ak, ck, rfl, hk, -⟩ := h.sk
  have c1 := h.c1
  have c2 := h.c2
  cases q with
  | nil =>
    go_enter Try.func15, Try.ntmps15
    go_wp2_with fail
    go_ret3
    exact ⟨rfl, Drawn.refl _⟩
  | cons p r =>
    obtain ⟨g1, rfl, x1⟩ := hi 0 _ (idsL_get (p := p) rfl)
    obtain ⟨g2, rfl, x2⟩ := hk 0 _ (keysL_get (p := p) rfl)
    have hlr : (((p :: r).length : Nat) : Int) ≠ 0 := by simp; omega
    have hlp : (0 : Int) < (((p :: r).length : Nat) : Int) := by simp
    obtain ⟨n, hn⟩ : ∃ n, (p :: r).length = n := ⟨_, rfl⟩
    rw [hn] at hlr hlp c1 c2
    have hlr' : ((n : Int) == 0) = false := by simpa using hlr
    clear h hi hk hn
    go_enter Try.func15, Try.ntmps15
    go_wp2_with fail
    go_quiet (fail)
    go_wp2_with fail
    go_ret3
    exact ⟨rfl, ⟨_, rfl⟩⟩

theorem rkey_any (h : RQ w M R N q) (t : Int) :
    Calls Try.prog 17 #[.pointer (some ⟨M, 0, none⟩), .int .i64 t] w fun e w' => e = .returned (.tuple #[.int .i64 (keyV q t), .bool (hasB q t)]) ∧ w' = w := by
  have HF := rfind_any h t
  obtain ⟨vi, vk, rfl, h⟩ := h
  obtain ⟨ak, ck, rfl, hk, -⟩ := h.sk
  have c2 := h.c2
  cases hb : hasB q t with
  | false =>
    rw [keyV_none hb]
    rw [findI_none hb] at HF
    go_enter Try.func17, Try.ntmps17
    go_wp2_with (first
      | (go_at_call 35; refine HF.mono ?_; rintro e w' ⟨rfl, hw⟩; subst w'))
    go_ret2
    exact ⟨rfl, rfl⟩
  | true =>
    obtain ⟨i, p, e1, hp, _, e2⟩ := findI_some hb
    rw [e2]
    rw [e1] at HF
    obtain ⟨g, rfl, cx⟩ := hk i _ (keysL_get hp)
    have hlt := (List.getElem?_eq_some_iff.1 hp).1
    have hlt' : (i : Int) < (q.length : Int) := by omega
    clear hk hp e1 e2 h
    go_enter Try.func17, Try.ntmps17
    go_wp2_with (first
      | (go_at_call 35; refine HF.mono ?_; rintro e w' ⟨rfl, hw⟩; subst w'))
    go_ret2
    exact ⟨rfl, rfl⟩
end

end Go.Proofs.Ytmogedfjhbfglaa
