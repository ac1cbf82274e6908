/- parseMember. -/
import Derived.Test.YtgoedlgilgnphaaDoorSplit
import Derived.Lib.SmallJoins
namespace Go.Proofs.YtgoedlgilgnphaaDoor
open Go.RowKit Go.Shelf
attribute [local go_sem] Oper.semAt_some

/-- The two errors of the library lie where they lie. -/
structure Errs (w : World) : Prop where
  size : 6 ≤ w.heap.size
  syn : ∃ ev, w.cell? ⟨4, 0, none⟩ = some ev ∧ (ev = .nilIface ∨ ∃ te pe, ev = .iface te pe)
  rng : ∃ ev, w.cell? ⟨5, 0, none⟩ = some ev ∧ (ev = .nilIface ∨ ∃ te pe, ev = .iface te pe)

theorem Errs.below {n : Nat} {w w' : World} (h : Errs w) (hb : Below n w w') (hn : 6 ≤ n) : Errs w' := by
  obtain ⟨e1, h1, h1'⟩ := h.syn
  obtain ⟨e2, h2, h2'⟩ := h.rng
  exact ⟨Nat.le_trans h.size hb.size, ⟨e1, (hb.cell (p := ⟨4, 0, none⟩) (show 4 < n by omega)).trans h1, h1'⟩, ⟨e2, (hb.cell (p := ⟨5, 0, none⟩) (show 5 < n by omega)).trans h2, h2'⟩⟩

/-- A member's text. -/
def memV (s : List UInt8) : Int × Bool := match Lib.atoiAll s with | .ok v => if 0 ≤ v ∧ v < 64 then (v, true) else (0, false) | _ => (0, false)

/-- A text cut at a byte. -/
def cutL (s : List UInt8) (c : UInt8) : List UInt8 × List UInt8 × Bool := if Lib.indexByte s c = -1 then (s, [], false) else (s.take (Lib.indexByte s c).toNat, s.drop ((Lib.indexByte s c).toNat + 1), true)

set_option maxHeartbeats 1000000 in
theorem member_any (s : List UInt8) (hs : s.length ≤ 400) (w : World) (hE : Errs w) :
    Calls Tryd.prog 52 #[.string ⟨s.toArray⟩] w fun e w' => e = .returned (.tuple #[.int .i64 (memV s).1, .bool (memV s).2]) ∧ Below w.heap.size w w' := by
  have hsz : (ByteArray.mk s.toArray).size ≤ 400 := by simpa [ByteArray.size] using hs
  go_enter Tryd.func52, Tryd.ntmps52
  cases hA : Lib.atoiAll s with
  | ok v =>
    go_wp2_with fail
    refine (Tryd.strconv_Atoi_ok ⟨s.toArray⟩ (by omega) v (by simpa using hA) _).mono ?_
    rintro e w' ⟨rfl, hw⟩
    have hb : Below w.heap.size w w' := by
      rcases hw with rfl | ⟨t, rfl⟩
      · exact Below.refl _ _
      · exact Go.Joins.below_bytesWorld _ _ _ _ (Nat.le_refl _)
    by_cases h0 : 0 ≤ v
    · by_cases h1 : v < 64
      · go_wp2
        go_ret2
        exact ⟨by simp [memV, hA, h0, h1], hb⟩
      · go_wp2
        go_ret2
        have hV : memV s = (0, false) := by unfold memV; rw [hA]; exact if_neg (by omega)
        exact ⟨by rw [hV]; rfl, hb⟩
    · go_wp2
      go_ret2
      have hV : memV s = (0, false) := by unfold memV; rw [hA]; exact if_neg (by omega)
      exact ⟨by rw [hV]; rfl, hb⟩
  | «syntax» =>
    obtain ⟨ev, hv, hv'⟩ := hE.syn
    go_wp2_with fail
    refine (Tryd.strconv_Atoi_syntax ⟨s.toArray⟩ (by omega) (by simpa using hA) ev _ hv hv').mono ?_
    rintro e w' ⟨N, rfl, hN, hc, hb⟩
    go_wp2
    go_ret2
    exact ⟨by simp [memV, hA], hb⟩
  | range =>
    obtain ⟨ev, hv, hv'⟩ := hE.rng
    go_wp2_with fail
    refine (Tryd.strconv_Atoi_range ⟨s.toArray⟩ (by omega) (by simpa using hA) ev _ hv hv').mono ?_
    rintro e w' ⟨N, rfl, hN, hc, hb⟩
    go_wp2
    go_ret2
    exact ⟨by simp [memV, hA], hb⟩

theorem slite_cut_any (s : List UInt8) (c : UInt8) (hs : s.length ≤ 400) (w : World) :
    Calls Tryd.prog 62 #[.string ⟨s.toArray⟩, .string ⟨#[c]⟩] w fun e w' => e = .returned (.tuple #[.string ⟨(cutL s c).1.toArray⟩, .string ⟨(cutL s c).2.1.toArray⟩, .bool (cutL s c).2.2]) ∧ ∃ m, w' = w.drewN m := by
  have hix := index_lt s c
  have hI := Tryd.stringslite_Index_one ⟨s.toArray⟩ c
  go_enter Tryd.func62, Tryd.ntmps62
  by_cases hno : Lib.indexByte s c = -1
  · have hV : cutL s c = (s, [], false) := by unfold cutL; rw [if_pos hno]
    go_wp2_with fail
    refine (hI _).mono ?_
    rintro e w' ⟨rfl, rfl⟩
    dsimp only
    rw [hno]
    go_wp2
    go_ret3
    exact ⟨by rw [hV]; rfl, 0, rfl⟩
  · obtain ⟨i, hi⟩ : ∃ i : Nat, Lib.indexByte s c = i := ⟨(Lib.indexByte s c).toNat, by omega⟩
    have hV : cutL s c = (s.take i, s.drop (i + 1), true) := by unfold cutL; rw [if_neg hno, hi]; rfl
    go_wp2_with fail
    refine (hI _).mono ?_
    rintro e w' ⟨rfl, rfl⟩
    dsimp only
    rw [hi]
    go_wp2
    go_quiet (fail)
    go_wp2
    go_ret3
    rw [ext_take, ext_drop _ _ _ (Nat.le_refl _), hV]
    exact ⟨rfl, _, rfl⟩

theorem cut_any (s : List UInt8) (c : UInt8) (hs : s.length ≤ 400) (w : World) :
    Calls Tryd.prog 51 #[.string ⟨s.toArray⟩, .string ⟨#[c]⟩] w fun e w' => e = .returned (.tuple #[.string ⟨(cutL s c).1.toArray⟩, .string ⟨(cutL s c).2.1.toArray⟩, .bool (cutL s c).2.2]) ∧ ∃ m, w' = w.drewN m := by
  go_enter Tryd.func51, Tryd.ntmps51
  go_wp2_with fail
  refine (slite_cut_any s c hs _).mono ?_
  rintro e w' ⟨rfl, m, rfl⟩
  go_wp2
  go_ret3
  exact ⟨rfl, m, rfl⟩

/-- A part of a text. -/
def partV (p : List UInt8) : Nat × Bool :=
  let c := cutL p 45
  let a := memV c.1
  let b := memV (if c.2.2 then c.2.1 else c.1)
  if a.2 = true ∧ b.2 = true then (belowN (clampN (b.1 + 1)) &&& (18446744073709551615 - belowN (clampN a.1)), true) else (0, false)

theorem cutL_len (s : List UInt8) (c : UInt8) : (cutL s c).1.length ≤ s.length ∧ (cutL s c).2.1.length ≤ s.length := by
  unfold cutL
  split
  · simp
  · simp only [List.length_take, List.length_drop]; omega

theorem memV_range (s : List UInt8) : 0 ≤ (memV s).1 ∧ (memV s).1 < 64 := by
  unfold memV
  split
  · split <;> simp_all
  · simp

set_option maxHeartbeats 1000000 in
theorem part_core (p c1 c2 : List UInt8) (c3 : Bool) (x y : Int) (xo yo : Bool) (w : World) (hE : Errs w) (R1 : 0 ≤ x ∧ x < 64) (R2 : 0 ≤ y ∧ y < 64)
    (MC : ∀ w, Calls Tryd.prog 51 #[.string ⟨p.toArray⟩, .string ⟨#[45]⟩] w fun e w' => e = .returned (.tuple #[.string ⟨c1.toArray⟩, .string ⟨c2.toArray⟩, .bool c3]) ∧ ∃ m, w' = w.drewN m)
    (M1 : ∀ w, Errs w → Calls Tryd.prog 52 #[.string ⟨c1.toArray⟩] w fun e w' => e = .returned (.tuple #[.int .i64 x, .bool xo]) ∧ Below w.heap.size w w')
    (M2 : ∀ w, Errs w → Calls Tryd.prog 52 #[.string ⟨(if c3 then c2 else c1).toArray⟩] w fun e w' => e = .returned (.tuple #[.int .i64 y, .bool yo]) ∧ Below w.heap.size w w') :
    Calls Tryd.prog 43 #[.string ⟨p.toArray⟩] w fun e w' => e = .returned (.tuple #[.int .u64 ((if (xo && yo) = true then belowN (clampN (y + 1)) &&& (18446744073709551615 - belowN (clampN x)) else 0 : Nat) : Int), .bool (xo && yo)]) ∧ Below w.heap.size w w' := by
  have q1 := below_lt (clampN_le (y + 1))
  have q2 := below_lt (clampN_le x)
  have hbits := bits_andNot_u64_nat _ _ q1 q2
  go_enter Tryd.func43, Tryd.ntmps43
  go_wp2_with fail
  refine (MC _).mono ?_
  rintro e w' ⟨rfl, m, rfl⟩
  have B1 : Below w.heap.size w (w.drewN m) := below_drewN (Below.refl _ _) _
  have E1 := hE.below B1 hE.size
  generalize w.drewN m = w1 at B1 E1
  cases c3 with
  | false =>
    simp only [Bool.false_eq_true, if_false] at M2
    go_wp2_with fail
    refine (M1 _ E1).mono ?_
    rintro e w2 ⟨rfl, B2⟩
    have E2 := E1.below B2 E1.size
    go_wp2_with fail
    refine (M2 _ E2).mono ?_
    rintro e w3 ⟨rfl, B3⟩
    have hb := (B1.trans (B2.mono B1.size)).trans (B3.mono (Nat.le_trans B1.size B2.size))
    cases xo with
    | false =>
      go_wp2
      go_ret2
      exact ⟨rfl, hb⟩
    | true =>
      cases yo with
      | false =>
        go_wp2
        go_ret2
        exact ⟨rfl, hb⟩
      | true =>
        go_wp2_with (go_at_call 29; refine (below_any _ _ (by omega) (by omega)).mono ?_; rintro e w' ⟨rfl, rfl⟩)
        go_ret2
        exact ⟨rfl, hb⟩
  | true =>
    simp only [if_true] at M2
    go_wp2_with fail
    refine (M1 _ E1).mono ?_
    rintro e w2 ⟨rfl, B2⟩
    have E2 := E1.below B2 E1.size
    go_wp2_with fail
    refine (M2 _ E2).mono ?_
    rintro e w3 ⟨rfl, B3⟩
    have hb := (B1.trans (B2.mono B1.size)).trans (B3.mono (Nat.le_trans B1.size B2.size))
    cases xo with
    | false =>
      go_wp2
      go_ret2
      exact ⟨rfl, hb⟩
    | true =>
      cases yo with
      | false =>
        go_wp2
        go_ret2
        exact ⟨rfl, hb⟩
      | true =>
        go_wp2_with (go_at_call 29; refine (below_any _ _ (by omega) (by omega)).mono ?_; rintro e w' ⟨rfl, rfl⟩)
        go_ret2
        exact ⟨rfl, hb⟩

theorem parsePart_any (p : List UInt8) (hp : p.length ≤ 400) (w : World) (hE : Errs w) :
    Calls Tryd.prog 43 #[.string ⟨p.toArray⟩] w fun e w' => e = .returned (.tuple #[.int .u64 ((partV p).1 : Nat), .bool (partV p).2]) ∧ Below w.heap.size w w' := by
  have hl := cutL_len p 45
  have MC := cut_any p 45 hp
  generalize hc : cutL p 45 = c at hl MC
  obtain ⟨c1, c2, c3⟩ := c
  dsimp only at hl MC
  have hlen : (if c3 then c2 else c1).length ≤ 400 := by split <;> omega
  have key := part_core p c1 c2 c3 _ _ _ _ w hE (memV_range c1) (memV_range (if c3 then c2 else c1)) MC (member_any c1 (by omega)) (member_any _ hlen)
  have hV : partV p = (if ((memV c1).2 && (memV (if c3 then c2 else c1)).2) = true then belowN (clampN ((memV (if c3 then c2 else c1)).1 + 1)) &&& (18446744073709551615 - belowN (clampN (memV c1).1)) else 0, ((memV c1).2 && (memV (if c3 then c2 else c1)).2)) := by
    unfold partV
    rw [hc]
    dsimp only
    cases (memV c1).2 <;> cases (memV (if c3 then c2 else c1)).2 <;> simp
  rw [hV]
  exact key

end Go.Proofs.YtgoedlgilgnphaaDoor
