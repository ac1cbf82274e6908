/- Contract of the reference's All: an insertion sort. -/
import Derived.Test.YtkoekdbkjjjoaaaDoorRefT
import Derived.Test.YtkoekdbkjjjoaaaDoorAll
namespace Go.Proofs.YtkoekdbkjjjoaaaDoor
open Go.RowKit

/-- Sorted, rising. -/
def srt (l : List Int) : List Int := l.mergeSort (fun x y => decide (x ≤ y))
theorem srt_sorted (l : List Int) : (srt l).Pairwise (· ≤ ·) := by
  have := List.pairwise_mergeSort (le := fun x y : Int => decide (x ≤ y)) (by intro a b c h1 h2; simp at *; omega) (by intro a b; simp; omega) l
  exact this.imp (by intro a b h; simpa using h)
theorem srt_perm (l : List Int) : (srt l).Perm l := List.mergeSort_perm _ _
theorem srt_eq {l m : List Int} (hs : m.Pairwise (· ≤ ·)) (hp : m.Perm l) : m = srt l :=
  List.Perm.eq_of_pairwise (le := (· ≤ ·)) (fun a b _ _ h1 h2 => by omega) hs (srt_sorted l) (hp.trans (srt_perm l).symm)
/-- x put in at place k of a sorted list. -/
theorem srt_ins {l : List Int} {x : Int} {k : Nat} (h1 : ∀ z ∈ (srt l).drop k, x < z) (h2 : k = 0 ∨ ∃ y, (srt l)[k - 1]? = some y ∧ y ≤ x) : (srt l).take k ++ x :: (srt l).drop k = srt (l ++ [x]) := by
  have hs := srt_sorted l
  have e := List.take_append_drop k (srt l)
  apply srt_eq
  · rw [← e, List.pairwise_append] at hs
    obtain ⟨s1, s2, s3⟩ := hs
    rw [List.pairwise_append]
    refine ⟨s1, List.pairwise_cons.2 ⟨fun z hz => by have := h1 z hz; omega, s2⟩, fun a ha b hb => ?_⟩
    have hax : a ≤ x := by
      rcases h2 with rfl | ⟨y, hy, hyx⟩
      · simp at ha
      · obtain ⟨j, hj, rfl⟩ := List.mem_iff_getElem.1 ha
        have hjk : j < k := by rw [List.length_take] at hj; omega
        obtain ⟨hk, rfl⟩ := List.getElem?_eq_some_iff.1 hy
        rw [List.getElem_take]
        by_cases e2 : j = k - 1
        · subst e2; omega
        · have := List.pairwise_iff_getElem.1 (srt_sorted l) j (k - 1) (by omega) hk (by omega)
          omega
    rcases List.mem_cons.1 hb with rfl | hb
    · exact hax
    · have := h1 b hb; omega
  · have p1 : ((srt l).take k ++ x :: (srt l).drop k).Perm (x :: ((srt l).take k ++ (srt l).drop k)) := List.perm_middle
    rw [e] at p1
    exact p1.trans ((List.Perm.cons x (srt_perm l)).trans (List.perm_append_comm (l₁ := [x]) (l₂ := l)))

theorem below_set {n : Nat} {w W : World} (h : Below n w W) {p : Addr} (hp : n ≤ p.block) (u : Value) : Below n w (W.setCell p u) :=
  ⟨h.os, h.tape, h.output, by have := h.size; simpa [World.setCell] using this, fun k hk => (Below.heap_setCell _ _ _ _ (by omega)).trans (h.block k hk)⟩
/-- One number of a row is another one. -/
theorem RowI.set {w : World} {base g n c : Nat} {xs : List Int} (h : RowI w base (.slice (some ⟨g, 0, none⟩) n c) xs) (j : Nat) (y : Int) : RowI (w.setCell ⟨g, j, none⟩ (.int .i64 y)) base (.slice (some ⟨g, 0, none⟩) n c) (xs.set j y) := by
  unfold RowI at h ⊢
  rw [List.length_set, List.map_set]
  obtain ⟨_, h2⟩ := h
  refine ⟨by simp, ?_⟩
  rcases h2 with ⟨e, _⟩ | ⟨g', cap, cur, e, hb, hc, h3, h4, h5, h6⟩
  · cases e
  · simp only [Value.slice.injEq, Option.some.injEq, Addr.mk.injEq, and_true] at e
    obtain ⟨rfl, rfl, rfl⟩ := e
    refine .inr ⟨g, _, _, rfl, hb, heap_setCell_same w g j _ 3 (.int .i64 y) hc, h3, h4, by simpa using h5, ?_⟩
    rw [Array.toList_setIfInBounds, List.take_set, h6]
theorem RowI.open2 {w : World} {base g n c : Nat} {xs : List Int} (h : RowI w base (.slice (some ⟨g, 0, none⟩) n c) xs) : n = xs.length ∧ base ≤ g ∧ (∀ (j : Nat) x, xs[j]? = some x → w.cell? ⟨g, j, none⟩ = some (.int .i64 x)) ∧ ∀ j, w.frozen? ⟨g, j, none⟩ = false := by
  obtain ⟨a, c', e, _, _, _, hx⟩ := RowI.shape h
  simp only [Value.slice.injEq] at e
  obtain ⟨rfl, rfl, rfl⟩ := e
  refine ⟨rfl, (World.ownsRow.lt h g rfl).1, fun j x hj => ?_, fun j => ?_⟩
  · obtain ⟨g', e, hc⟩ := hx j x hj
    cases e
    exact hc
  · rcases h.2 with ⟨e, _⟩ | ⟨g', cap, cur, e, hb, hc, _⟩
    · cases e
    · cases e
      simp [World.frozen?, hc]
theorem set_ins (l : List Int) (k : Nat) (y z : Int) (h : k ≤ l.length) : (l.take k ++ y :: l.drop k).set k z = l.take k ++ z :: l.drop k := by
  rw [List.set_append_right _ _ (by rw [List.length_take]; omega)]
  have : k - (l.take k).length = 0 := by rw [List.length_take]; omega
  rw [this]
  rfl
theorem back_ins (l : List Int) (k : Nat) (y : Int) (hy : l[k]? = some y) : l.take (k + 1) ++ y :: l.drop (k + 1) = l.take k ++ y :: l.drop k := by
  obtain ⟨hk, e⟩ := List.getElem?_eq_some_iff.1 hy
  rw [List.take_add_one, hy, List.drop_eq_getElem_cons hk, e]
  simp

section
variable {w w' : World} {M A T n : Nat} {ag : List Nat} {tk : List Bool}

set_option maxHeartbeats 4000000 in
theorem rall_any (hrs : RS w M A T n ag tk) :
    Calls Tryd.prog 18 #[.pointer (some ⟨M, 0, none⟩)] w fun e w' => ∃ v, e = .returned v ∧ RowI w' w.heap.size v (allL ag tk) ∧ Below w.heap.size w w' := by
  have c0 := hrs.c0
  have c1 := hrs.c1
  have hn := hrs.le
  have HE : Hid (allL ag tk = srt (idsK ag tk n)) := by show allL ag tk = _; unfold allL srt; rw [hrs.tl]
  have HR : Aside (∀ W, Below w.heap.size w W → RS W M A T n ag tk) := fun W hb => hrs.keep (.of_below hb)
  go_enter Tryd.func18, Tryd.ntmps18
  go_wp2_with fail
  go_loopw [3, 13] (fun p q wr => ∃ k : Nat, k ≤ n ∧ q = .int .i64 k ∧ RowI wr w.heap.size p (srt (idsK ag tk k)) ∧ Below w.heap.size w wr) (fun _ q _ => 4096 - (intOf q).toNat)
  case atStart => exact ⟨0, by omega, rfl, by rw [show srt (idsK ag tk 0) = [] from by simp [srt, idsK]]; exact World.ownsRow_nil w w.heap.size 3 1, Below.refl _ _⟩
  case round =>
    clear c0 c1
    obtain ⟨k, hk, rfl, hr, hB⟩ := hrel
    have hrs' := HR.out wr hB
    have c0 := hrs'.c0
    by_cases hlt : k < n
    · have hlt' : (k : Int) < (n : Int) := by omega
      have hk0 : (0 : Int) ≤ (k : Int) := by omega
      obtain ⟨a, t, ha, ht⟩ := hrs'.at hlt
      have hca := hrs'.ca ha
      have hct := hrs'.ct ht
      have hle := idsK_le ag tk k
      have hs := idsK_succ ag tk k a t ha ht
      have hlen : (srt (idsK ag tk k)).length = (idsK ag tk k).length := (srt_perm _).length_eq
      cases t
      · have hs' : Hid (idsK ag tk (k + 1) = idsK ag tk k) := hs.trans (if_neg (by simp))
        clear hs ha ht hlen
        go_wp2_with fail
        go_roundw
        case rel => exact ⟨k + 1, by omega, by simp, by rw [hs'.out]; exact hr, hB⟩
        case measure =>
          simp [intOf]
          omega
      · have hs' : Hid (idsK ag tk (k + 1) = idsK ag tk k ++ [idI (k : Int) (a : Nat)]) := hs.trans (if_pos rfl)
        have hI := fun W => rid_any (k : Int) ((a : Nat) : Int) W
        clear hs ha ht
        generalize idI (k : Int) (a : Nat) = id at hI hs'
        have hi : ∀ p, (∀ z ∈ (srt (idsK ag tk k)).drop p, id < z) → (p = 0 ∨ ∃ y, (srt (idsK ag tk k))[p - 1]? = some y ∧ y ≤ id) → (srt (idsK ag tk k)).take p ++ id :: (srt (idsK ag tk k)).drop p = srt (idsK ag tk (k + 1)) := fun p h1 h2 => by
          rw [hs'.out]; exact srt_ins h1 h2
        have HI : Aside (∀ p, (∀ z ∈ (srt (idsK ag tk k)).drop p, id < z) → (p = 0 ∨ ∃ y, (srt (idsK ag tk k))[p - 1]? = some y ∧ y ≤ id) → (srt (idsK ag tk k)).take p ++ id :: (srt (idsK ag tk k)).drop p = srt (idsK ag tk (k + 1))) := hi
        clear hi hs'
        obtain ⟨l', hl'⟩ : ∃ l', srt (idsK ag tk (k + 1)) = l' := ⟨_, rfl⟩
        rw [hl'] at HI
        have HL' : Hid (srt (idsK ag tk (k + 1)) = l') := hl'
        clear hl'
        generalize srt (idsK ag tk k) = l at *
        have hl4 : l.length ≤ 4096 := by omega
        obtain ⟨va, vc, rfl⟩ := own_shape hr
        clear hlen hle
        go_wp2_with (first
          | (go_at_call 22; refine (hI _).mono ?_; rintro e w' ⟨rfl, hw⟩; subst w')
          | (at_builtin; refine wpList_app rfl _ _ rfl w.heap.size _ _ _ rfl (hr.alloc _) _ _ _ [id] rfl rfl (reads_one _ _) (by omega) (by have := hB.size; simp; omega) ?_; intro v3 w3 ho3 hg3; have hB3 : Below w.heap.size w w3 := (hB.alloc (hB.size) _).grown hg3 (by have := hB.size; simp; omega) (fun k e => (hr.lt k e).1)))
        have hr3 : RowI w3 w.heap.size v3 (l.take l.length ++ id :: l.drop l.length) := by
          unfold RowI
          rw [List.take_length, List.drop_length, List.length_append]
          exact ho3
        obtain ⟨g, vc3, rfl⟩ : ∃ g c, v3 = .slice (some ⟨g, 0, none⟩) (l.length + 1) c := by
          rcases ho3.2 with ⟨_, h0⟩ | ⟨g, cap, cur, e, _⟩
          · omega
          · exact ⟨g, cap, e⟩
        have hbg := (World.ownsRow.lt ho3 g rfl).1
        clear ho3 hg3 hr hB hI hca hct c0 hrs'
        go_loopw [7] (fun q wx => ∃ (p : Nat) (y : Int), p ≤ l.length ∧ q = .int .i64 p ∧ RowI wx w.heap.size (.slice (some ⟨g, 0, none⟩) (l.length + 1) vc3) (l.take p ++ y :: l.drop p) ∧ Hid (∀ z ∈ l.drop p, id < z) ∧ Below w.heap.size w wx) (fun q _ => (intOf q).toNat)
        case atStart => exact ⟨l.length, id, Nat.le_refl _, rfl, hr3, (show ∀ z ∈ l.drop l.length, id < z by rw [List.drop_length]; intro z hz; cases hz), hB3⟩
        case round =>
          clear hr3 hB3
          obtain ⟨p, y, hp, rfl, hr, hz, hB⟩ := hrel
          obtain ⟨-, -, hcl, hfr⟩ := hr.open2
          have hcp := hcl p y (by rw [List.getElem?_append_right (by rw [List.length_take]; omega), List.length_take]; simp [Nat.min_eq_left hp])
          have hfp := hfr p
          have hp0 : (0 : Int) ≤ (p : Int) := by omega
          have hp1 : (p : Int) < ((l.length : Int) + 1) := by omega
          have hset := RowI.set hr p id
          rw [set_ins l p y id hp] at hset
          have hBs : Below w.heap.size w (wr.setCell ⟨g, p, none⟩ (.int .i64 id)) := below_set hB (p := ⟨g, _, none⟩) hbg _
          cases p with
          | zero =>
            rw [HI.out 0 hz.out (.inl rfl)] at hset
            clear hcl hfr hr
            go_wp2_with fail
            go_roundw
            case rel => exact ⟨k + 1, by omega, by simp, by rw [HL'.out]; exact hset, hBs⟩
            case measure =>
              simp [intOf]
              omega
          | succ p =>
            have hy2 : l[p]? = some (l[p]'(by omega)) := List.getElem?_eq_getElem (by omega)
            have hcp2 := hcl p (l[p]'(by omega)) (by rw [List.getElem?_append_left (by rw [List.length_take]; omega), List.getElem?_take_of_lt (by omega)]; exact hy2)
            generalize (l[p]'(by omega)) = y2 at hy2 hcp2
            have e1 : ((p + 1 : Nat) : Int) = (p : Int) + 1 := by omega
            have hq0 : (0 : Int) ≤ (p : Int) := by omega
            have hq1 : (p : Int) < ((l.length : Int) + 1) := by omega
            by_cases hgt : id < y2
            · have hr2 := RowI.set hr (p + 1) y2
              rw [set_ins l (p + 1) y y2 hp, back_ins l p y2 hy2] at hr2
              have hz2 : Hid (∀ z ∈ l.drop p, id < z) := fun z hzm => by
                obtain ⟨hpl, e⟩ := List.getElem?_eq_some_iff.1 hy2
                rw [List.drop_eq_getElem_cons hpl, e] at hzm
                rcases List.mem_cons.1 hzm with rfl | hzm
                · exact hgt
                · exact hz.out z hzm
              have hB2 : Below w.heap.size w (wr.setCell ⟨g, p + 1, none⟩ (.int .i64 y2)) := below_set hB (p := ⟨g, _, none⟩) hbg _
              clear hset hBs hcl hfr hr hz
              go_wp2_with fail
              go_roundw
              case rel => exact ⟨p, y2, by omega, by trivial, hr2, hz2, hB2⟩
              case measure =>
                simp [intOf]
            · rw [HI.out (p + 1) hz.out (.inr ⟨y2, hy2, by omega⟩)] at hset
              clear hcl hfr hr hz
              go_wp2_with fail
              go_roundw
              case rel => exact ⟨k + 1, by omega, by simp, by rw [HL'.out]; exact hset, hBs⟩
              case measure =>
                simp [intOf]
                omega
    · obtain rfl : k = n := by omega
      go_wp2_with fail
      go_ret
      exact ⟨_, rfl, by rw [HE.out]; exact hr, hB⟩
end
end Go.Proofs.YtkoekdbkjjjoaaaDoor
