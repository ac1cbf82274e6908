/- The reference's Tick and Next. -/
import Derived.Test.YtmjjghhlalaeiaaRef
namespace Go.Proofs.Ytmjjghhlalaeiaa
open Go.RowKit

theorem wt_ext {a b : List Nat} (hl : a.length = b.length) (h : ∀ t, wt a t = wt b t) : a = b := by
  apply List.ext_getElem hl
  intro i h1 h2
  have := h i
  unfold wt at this
  rw [List.getD_eq_getElem?_getD, List.getD_eq_getElem?_getD, List.getElem?_eq_getElem h1, List.getElem?_eq_getElem h2] at this
  exact this

/-- Those of the first j that are woken at m. -/
def wakeP (m : Nat) (wh : List Nat) (j : Nat) : List Nat := (List.range j).filter (fun t => wt wh t == m)
theorem wakeP_yes {m : Nat} {wh : List Nat} {j : Nat} (h : wt wh j = m) : wakeP m wh (j + 1) = wakeP m wh j ++ [j] := by
  unfold wakeP
  rw [List.range_succ, List.filter_append]
  simp [h]
theorem wakeP_no {m : Nat} {wh : List Nat} {j : Nat} (h : wt wh j ≠ m) : wakeP m wh (j + 1) = wakeP m wh j := by
  unfold wakeP
  rw [List.range_succ, List.filter_append]
  simp [h]
theorem wakeP_len (m : Nat) (wh : List Nat) (j : Nat) : (wakeP m wh j).length ≤ j := by
  have := List.length_filter_le (fun t => wt wh t == m) (List.range j)
  rw [List.length_range] at this
  exact this

section
variable {w w' : World} {P : Rp} {N n : Nat} {wh : List Nat}

set_option maxRecDepth 100000 in
set_option maxHeartbeats 4000000 in
theorem rtick_any (h : RQ w P N n wh) (hT : Tm (n + 1)) :
    Calls Try.prog 29 #[.pointer (some ⟨P.B, 0, none⟩)] w fun e w' => ∃ v, e = .returned v ∧ RowI w' w.heap.size v (ints (wakeL (n + 1) wh)) ∧ RQ w' P N (n + 1) (wakeS (n + 1) wh) ∧ But P.S w w' := by
  have c1 := h.c1
  have f1 := h.b.fz 1
  have hlt : ∀ x ∈ P.S, x < w.heap.size := fun x hx => h.lt hx
  have hN2 := h.n2
  have hlen := h.len
  have ewrap : IntKind.i64.wrap ((n : Int) + 1) = ((n + 1 : Nat) : Int) := by
    have hTm : n + 1 < 4000000000000000000 := hT
    rw [IntKind.wrap_i64] <;> omega
  have ewrap' : wrap64 ((n : Int) + 1) = ((n + 1 : Nat) : Int) := by
    have hTm : n + 1 < 4000000000000000000 := hT
    unfold wrap64
    omega
  have h1 : RQ (w.setCell ⟨P.B, 1, none⟩ (.int .i64 ((n : Int) + 1))) P N (n + 1) wh := h.setN (n + 1)
  have hb1 : But P.S w (w.setCell ⟨P.B, 1, none⟩ (.int .i64 ((n : Int) + 1))) := (But.refl P.S w).set (p := ⟨P.B, 1, none⟩) (by simp [Rp.S]) _
  have d2 := h1.c2
  have hsz : (w.setCell ⟨P.B, 1, none⟩ (.int .i64 ((n : Int) + 1))).heap.size = w.heap.size := by simp [World.setCell]
  go_enter Try.func29, Try.ntmps29
  go_wp2_with fail
  generalize (w.setCell ⟨P.B, 1, none⟩ (.int .i64 ((n : Int) + 1))) = W1 at *
  clear c1 f1 ewrap ewrap' d2 h
  go_loopw [3, 18] (fun p q wr => ∃ (j : Nat) (wj : List Nat), j ≤ N ∧ q = .int .i64 j ∧ RowI wr w.heap.size p (ints (wakeP (n + 1) wh j)) ∧ RQ wr P N (n + 1) wj ∧ (∀ t, wt wj t = if t < j ∧ wt wh t = n + 1 then 0 else wt wh t) ∧ But P.S w wr) (fun _ q _ => 4096 - (intOf q).toNat)
  case atStart => exact ⟨0, wh, by omega, rfl, World.ownsRow_nil W1 w.heap.size 3 1, h1, fun t => by rw [if_neg (by omega)], hb1⟩
  case round =>
    clear h1 hb1 hsz
    obtain ⟨j, wj, hj, rfl, hr, hQ, hw, hB⟩ := hrel
    have hBs := hB.size
    obtain ⟨ra, rc, rfl, -⟩ := hr.open'
    rw [ints_len] at hr ⊢
    by_cases hjN : j < N
    · have cg := hQ.xg hjN
      have c1 := hQ.c1
      have c2 := hQ.c2
      have fx := hQ.g.fz j
      have hj3 : (j : Int) < (N : Int) := by omega
      have hj0 : (0 : Int) ≤ (j : Int) := by omega
      have hwj : wt wj j = wt wh j := by rw [hw j, if_neg (by omega)]
      rw [hwj] at cg
      have hpl := wakeP_len (n + 1) wh j
      by_cases he : wt wh j = n + 1
      · rw [he] at cg
        have hP : Hid (wakeP (n + 1) wh (j + 1) = wakeP (n + 1) wh j ++ [j]) := wakeP_yes he
        have hw' : ∀ t, wt (wj.set j 0) t = if t < j + 1 ∧ wt wh t = n + 1 then 0 else wt wh t := fun t => by
          by_cases e : j = t
          · subst e
            rw [wt_set_self _ (by rw [hQ.len]; exact hjN), if_pos ⟨by omega, he⟩]
          · rw [wt_set_ne _ e, hw t]
            by_cases h1 : t < j ∧ wt wh t = n + 1
            · rw [if_pos h1, if_pos ⟨by omega, h1.2⟩]
            · rw [if_neg h1, if_neg (fun h2 => h1 ⟨by omega, h2.2⟩)]
        have hQk : ∀ W, But P.S W W → RQ W P N (n + 1) wj → RQ (W.setCell ⟨P.G, j, none⟩ (.int .i64 0)) P N (n + 1) (wj.set j 0) := fun W _ hW => hW.setW j 0
        have hnw : ((n + 1 : Nat) : Int) = (n : Int) + 1 := by omega
        rw [hnw] at cg c1
        clear he hwj hw hnw
        go_wp2_with (first
          | (at_builtin; refine wpList_app rfl _ _ rfl w.heap.size _ _ (ints (wakeP (n + 1) wh j)) rfl (show World.ownsRow _ _ _ _ _ _ _ from by have := own_alloc hr (.cells #[.int .i64 (j : Nat)] 3); rw [ints_len] at this; exact this) _ _ _ [(j : Int)] rfl rfl (reads_one _ _) (by omega) (by simp; omega) ?_; intro v3 w3 ho3 hg3; have hb3 : Below w.heap.size wr w3 := ((Below.refl _ wr).alloc hBs _).grown hg3 (by simp; omega) (fun k e => (hr.lt k e).1); have Q3 := hQ.but (But.of_from hb3) (fun k hk => But.from_not (hlt k hk)); have k2 := Q3.c2; have kg := Q3.xg hjN; have kf := Q3.g.fz j))
        go_roundw
        case rel =>
          have hB3 := hB.trans_new (But.of_from hb3) (fun x hx => .inr (List.mem_range'_1.1 hx).1)
          have hbs : But P.S w3 (w3.setCell ⟨P.G, j, none⟩ (.int .i64 0)) := (But.refl P.S w3).set (p := ⟨P.G, j, none⟩) (by simp [Rp.S]) _
          refine ⟨j + 1, wj.set j 0, by omega, by simp, ?_, Q3.setW j 0, hw', hB3.trans hbs⟩
          rw [hP.out]
          have ho : RowI w3 w.heap.size v3 (ints (wakeP (n + 1) wh j ++ [j])) := by
            unfold RowI
            rw [ints_len, List.length_append]
            have e : ints (wakeP (n + 1) wh j ++ [j]) = ints (wakeP (n + 1) wh j) ++ [(j : Int)] := by simp [ints]
            rw [e]
            exact ho3
          exact ho.but hbs hlt
        case measure =>
          simp [intOf]
          omega
      · have hP : Hid (wakeP (n + 1) wh (j + 1) = wakeP (n + 1) wh j) := wakeP_no he
        have hw' : ∀ t, wt wj t = if t < j + 1 ∧ wt wh t = n + 1 then 0 else wt wh t := fun t => by
          rw [hw t]
          by_cases e : j = t
          · subst e
            rw [if_neg (by omega), if_neg (fun h => he h.2)]
          · by_cases h1 : t < j ∧ wt wh t = n + 1
            · rw [if_pos h1, if_pos ⟨by omega, h1.2⟩]
            · rw [if_neg h1, if_neg (fun h2 => h1 ⟨by omega, h2.2⟩)]
        have hne : ((wt wh j : Nat) : Int) ≠ ((n + 1 : Nat) : Int) := by omega
        have hnb : (((wt wh j : Nat) : Int) == ((n + 1 : Nat) : Int)) = false := by simpa using hne
        clear hw hwj he
        generalize ((wt wh j : Nat) : Int) = y at *
        generalize ((n + 1 : Nat) : Int) = z at *
        go_wp2_with fail
        go_roundw
        case rel => exact ⟨j + 1, wj, by omega, by simp, by rw [hP.out]; exact hr, hQ, hw', hB⟩
        case measure =>
          simp [intOf]
          omega
    · obtain rfl : j = N := by omega
      have hR : wakeP (n + 1) wh j = wakeL (n + 1) wh := by unfold wakeP wakeL; rw [hlen]
      have hS : wj = wakeS (n + 1) wh := wt_ext (by rw [hQ.len, wakeS_len, hlen]) (fun t => by
        rw [hw t, wt_wakeS]
        by_cases h1 : wt wh t = n + 1
        · have : t < j := by
            rcases Nat.lt_or_ge t j with h | h
            · exact h
            · rw [wt_out (by omega)] at h1; omega
          rw [if_pos ⟨this, h1⟩, if_pos h1]
        · rw [if_neg (fun h => h1 h.2), if_neg h1])
      rw [hR] at hr ⊢
      rw [hS] at hQ
      clear hw
      go_wp2_with fail
      go_ret
      exact ⟨_, rfl, hr, hQ, hB⟩

/-- The least time so far. -/
def nxS (b a : Nat) : Nat := if a ≠ 0 ∧ (b = 0 ∨ a < b) then a else b
def nextN (wh : List Nat) : Nat := wh.foldl nxS 0
theorem nxS_inv : ∀ (l : List Nat) (b : Nat), (l.foldl nxS b = 0 ↔ b = 0 ∧ ∀ x ∈ l, x = 0) ∧ (l.foldl nxS b ≠ 0 → (l.foldl nxS b = b ∨ l.foldl nxS b ∈ l) ∧ (b ≠ 0 → l.foldl nxS b ≤ b) ∧ ∀ x ∈ l, x ≠ 0 → l.foldl nxS b ≤ x)
  | [], b => by simp
  | a :: l, b => by
    obtain ⟨h1, h2⟩ := nxS_inv l (nxS b a)
    rw [List.foldl_cons]
    have hb : (nxS b a = a ∧ a ≠ 0 ∧ (b = 0 ∨ a < b)) ∨ (nxS b a = b ∧ (a = 0 ∨ (b ≠ 0 ∧ b ≤ a))) := by unfold nxS; split <;> omega
    refine ⟨?_, fun hne => ?_⟩
    · rw [h1]
      constructor
      · rintro ⟨e, h⟩
        refine ⟨by omega, fun x hx => ?_⟩
        rcases List.mem_cons.1 hx with rfl | hx
        · omega
        · exact h x hx
      · rintro ⟨e, h⟩
        have := h a (by simp)
        exact ⟨by omega, fun x hx => h x (List.mem_cons_of_mem _ hx)⟩
    · obtain ⟨g1, g2, g3⟩ := h2 hne
      have hnz : nxS b a ≠ 0 ∨ nxS b a = 0 := by omega
      refine ⟨?_, fun hb0 => ?_, fun x hx hx0 => ?_⟩
      · rcases g1 with g1 | g1
        · rcases hb with ⟨e, _⟩ | ⟨e, _⟩
          · right; rw [g1, e]; simp
          · left; rw [g1, e]
        · right; exact List.mem_cons_of_mem _ g1
      · have := g2 (by omega)
        omega
      · rcases List.mem_cons.1 hx with rfl | hx
        · have := g2 (by omega)
          omega
        · exact g3 x hx hx0
theorem next_zero {wh : List Nat} (h : nextN wh = 0) : ∀ t, wt wh t = 0 := by
  have := ((nxS_inv wh 0).1.1 h).2
  intro t
  rcases Nat.lt_or_ge t wh.length with hl | hl
  · have e : wt wh t = wh[t] := by unfold wt; rw [List.getD_eq_getElem?_getD, List.getElem?_eq_getElem hl]; rfl
    rw [e]
    exact this _ (List.getElem_mem hl)
  · exact wt_out hl
theorem next_some {wh : List Nat} (h : nextN wh ≠ 0) : (∃ t, wt wh t = nextN wh) ∧ ∀ t, wt wh t ≠ 0 → nextN wh ≤ wt wh t := by
  obtain ⟨h1, _, h3⟩ := (nxS_inv wh 0).2 h
  have hat : ∀ t (hl : t < wh.length), wt wh t = wh[t] := fun t hl => by unfold wt; rw [List.getD_eq_getElem?_getD, List.getElem?_eq_getElem hl]; rfl
  refine ⟨?_, fun t ht => ?_⟩
  · rcases h1 with h1 | h1
    · exact absurd h1 h
    · obtain ⟨i, hi, e⟩ := List.mem_iff_getElem.1 h1
      exact ⟨i, by rw [hat i hi]; exact e⟩
  · rcases Nat.lt_or_ge t wh.length with hl | hl
    · rw [hat t hl] at ht ⊢
      exact h3 _ (List.getElem_mem hl) ht
    · exact absurd (wt_out hl) ht
theorem next_is {wh : List Nat} {x : Nat} (h0 : x ≠ 0) (h1 : ∃ t, wt wh t = x) (h2 : ∀ t, wt wh t ≠ 0 → x ≤ wt wh t) : nextN wh = x := by
  obtain ⟨t, ht⟩ := h1
  by_cases hz : nextN wh = 0
  · have := next_zero hz t
    omega
  · obtain ⟨⟨s, hs⟩, h4⟩ := next_some hz
    have a1 := h4 t (by omega)
    have a2 := h2 s (by omega)
    omega

theorem foldl_take {wh : List Nat} {j : Nat} (hj : j < wh.length) : (wh.take (j + 1)).foldl nxS 0 = nxS ((wh.take j).foldl nxS 0) (wt wh j) := by
  have e : wh[j]? = some (wt wh j) := by unfold wt; rw [List.getD_eq_getElem?_getD, List.getElem?_eq_getElem hj]; rfl
  rw [List.take_add_one, e]
  simp

set_option maxRecDepth 100000 in
set_option maxHeartbeats 4000000 in
theorem rnext_any (h : RQ w P N n wh) :
    Calls Try.prog 16 #[.pointer (some ⟨P.B, 0, none⟩)] w fun e w' => e = .returned (.tuple #[.int .i64 (nextN wh : Nat), .bool (decide (nextN wh ≠ 0))]) ∧ w' = w := by
  have c2 := h.c2
  have hN2 := h.n2
  have hlen := h.len
  have hE : Hid (nextN wh = (wh.take N).foldl nxS 0) := by show nextN wh = (wh.take N).foldl nxS 0; rw [← hlen, List.take_length]; rfl
  go_enter Try.func16, Try.ntmps16
  go_wp2_with fail
  go_loopw [4, 12] (fun p q wr => ∃ j : Nat, j ≤ N ∧ p = .int .i64 ((wh.take j).foldl nxS 0 : Nat) ∧ q = .int .i64 j ∧ wr = w) (fun _ q _ => 4096 - (intOf q).toNat)
  case atStart => exact ⟨0, by omega, by simp, rfl, rfl⟩
  case round =>
    obtain ⟨j, hj, rfl, rfl, rfl⟩ := hrel
    by_cases hjN : j < N
    · have cg := h.xg hjN
      have hF : Hid ((wh.take (j + 1)).foldl nxS 0 = nxS ((wh.take j).foldl nxS 0) (wt wh j)) := foldl_take (by omega)
      have hj3 : (j : Int) < (N : Int) := by omega
      have hj0 : (0 : Int) ≤ (j : Int) := by omega
      generalize (wh.take j).foldl nxS 0 = b at *
      generalize wt wh j = a at *
      by_cases ha : a = 0
      · subst ha
        have hS : Hid (nxS b 0 = b) := by show nxS b 0 = b; unfold nxS; rw [if_neg (by omega)]
        go_wp2_with fail
        go_roundw
        case rel => exact ⟨j + 1, by omega, by rw [hF.out, hS.out], by simp, trivial⟩
        case measure =>
          simp [intOf]
          omega
      · have ha' : (0 : Int) < (a : Int) := by omega
        by_cases hb : b = 0
        · subst hb
          have hS : Hid (nxS 0 a = a) := by show nxS 0 a = a; unfold nxS; rw [if_pos ⟨ha, by omega⟩]
          clear ha
          go_wp2_with fail
          go_roundw
          case rel => exact ⟨j + 1, by omega, by rw [hF.out, hS.out], by simp, trivial⟩
          case measure =>
            simp [intOf]
            omega
        · have hbz : (b : Int) ≠ 0 := by omega
          have hbb : ((b : Int) == 0) = false := by simpa using hbz
          by_cases hab : a < b
          · have hS : Hid (((nxS b a : Nat) : Int) = (a : Int)) := by show ((nxS b a : Nat) : Int) = (a : Int); unfold nxS; rw [if_pos ⟨ha, by omega⟩]
            have hab' : (a : Int) < (b : Int) := by omega
            clear ha hb hab
            generalize (a : Int) = ai at *
            generalize (b : Int) = bi at *
            go_wp2_with fail
            go_roundw
            case rel => exact ⟨j + 1, by omega, by rw [hF.out, hS.out], by simp, trivial⟩
            case measure =>
              simp [intOf]
              omega
          · have hS : Hid (((nxS b a : Nat) : Int) = (b : Int)) := by show ((nxS b a : Nat) : Int) = (b : Int); unfold nxS; rw [if_neg (by omega)]
            have hab' : (b : Int) ≤ (a : Int) := by omega
            clear ha hb hab
            generalize (a : Int) = ai at *
            generalize (b : Int) = bi at *
            go_wp2_with fail
            go_roundw
            case rel => exact ⟨j + 1, by omega, by rw [hF.out, hS.out], by simp, trivial⟩
            case measure =>
              simp [intOf]
              omega
    · obtain rfl : j = N := by omega
      have hd : decide (nextN wh ≠ 0) = decide ((0 : Int) < ((nextN wh : Nat) : Int)) := by
        by_cases hz : nextN wh = 0
        · simp [hz]
        · simp [hz]; omega
      rw [← hE.out]
      have HD : Hid (decide (nextN wh ≠ 0) = decide ((0 : Int) < ((nextN wh : Nat) : Int))) := hd
      clear hd
      generalize hx : ((nextN wh : Nat) : Int) = x at HD
      have HX : Hid (((nextN wh : Nat) : Int) = x) := hx
      clear hx
      go_wp2_with fail
      go_ret2
      rw [HD.out, HX.out]
      exact ⟨rfl, rfl⟩
end
end Go.Proofs.Ytmjjghhlalaeiaa
