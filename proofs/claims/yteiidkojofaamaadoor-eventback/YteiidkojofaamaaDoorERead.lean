/- Read: the program's. -/
import Derived.Test.YteiidkojofaamaaDoorENext
import Derived.Test.YteiidkojofaamaaDoorERdC
import Derived.Test.YteiidkojofaamaaDoorCRead
namespace Go.Proofs.YteiidkojofaamaaDoor
open Go Go.RowKit

/-- What Read tells. -/
def RdV (o : Option (List Ev)) (lo : Nat) (w' : World) (r : Ending) : Prop :=
  match o with
  | some xs => ∃ v, r = .returned (.tuple #[v, .int .i64 0]) ∧ OwE w' lo v xs
  | none => r = .returned (.tuple #[.slice none 0 0, .int .i64 10])
theorem OwE.but {L : List Nat} {w w' : World} {B : Nat} {v : Value} {xs : List Ev} (h : OwE w B v xs) (hb : But L w w') (hL : ∀ x ∈ L, x < B) : OwE w' B v xs :=
  ownsRow_put h (fun k hk => by
    obtain ⟨h1, h2⟩ := h.lt hk
    exact hb.block k h2 (fun hm => by have := hL k hm; omega))
theorem ev_one (w : World) (e : Ev) : EV (w.alloc (.cells (evA e) 26)) (some ⟨w.heap.size, 0, none⟩) [e] := fun j hj => by
  obtain rfl : j = 0 := by simpa using hj
  exact ⟨_, _, rfl, (Cel.new w _ 26).range⟩
theorem end_zero {st : St} (h : endN st = 0) : st = (0, []) := by
  obtain ⟨x, bs⟩ := st
  unfold endN at h
  by_cases h0 : x = 0 ∧ bs ≠ []
  · rw [if_pos h0] at h
    cases h
  · rw [if_neg h0] at h
    dsimp only at h
    subst h
    simp at h0
    rw [h0]
theorem rd_step {M n : Nat} {st : St} {xs : List Ev} (h : 0 < n) (hg : goodE (nextE M st).1 = true) : rd M n st xs = rd M (n - 1) (nextE M st).2 (xs ++ [(nextE M st).1]) := by
  obtain ⟨k, rfl⟩ : ∃ k, n = k + 1 := ⟨n - 1, by omega⟩
  conv => lhs; unfold rd
  rw [hg, if_pos rfl]
  rfl
theorem rd_bad {M n : Nat} {st : St} {xs : List Ev} (h : 0 < n) (hg : goodE (nextE M st).1 = false) : rd M n st xs = none := by
  obtain ⟨k, rfl⟩ : ∃ k, n = k + 1 := ⟨n - 1, by omega⟩
  unfold rd
  rw [hg]
  rfl

set_option maxHeartbeats 4000000 in
set_option maxRecDepth 100000 in
theorem pread_any {w : World} {B : Nat} {a : Option Addr} {c : Nat} {bs : List UInt8} (h : Byts w B a c bs) (hl : bs.length ≤ 100000) (hT : Tab w) :
    Calls Tryd.prog 20 #[.slice a bs.length c] w fun r w' => RdV (readE MX bs) w.heap.size w' r ∧ Below w.heap.size w w' := by
  have HC := read_any h hl
  have hpos := hT.lt
  generalize bs.length = len at HC ⊢
  clear h hl
  go_enter Tryd.func20, Tryd.ntmps20
  go_upto_region 3 with (go_at_call 45; (with_reducible refine HC.mono ?_); rintro r w1 ⟨S, rfl, hS, hs1, hb1⟩)
  have HN : Calls Tryd.prog 51 #[.pointer (some ⟨S, 0, none⟩), .int .u64 1024] w1 fun r w' => GotS S w1 (fun (n : Nat) v _ => v = .int .u64 (n : Int)) (numT 1024) 0 (0, bs) r w' := src28 (0, bs) w1 hs1 1024
  have hle := gN_le 1024 (0, bs)
  obtain ⟨n, hn⟩ : ∃ n : Nat, Hid ((getS (numT 1024) 0 (0, bs)).1 = n) := ⟨_, rfl⟩
  obtain ⟨st1, hst1⟩ : ∃ st1 : St, Hid ((getS (numT 1024) 0 (0, bs)).2 = st1) := ⟨_, rfl⟩
  have hn0 : (n : Int) ≤ 1024 := by have := hle.2; unfold gN at this; rw [hn.out] at this; exact this
  have HRD : Hid (readE MX bs = rd MX n st1 []) := by
    refine Hid.mk ?_
    unfold readE
    rw [hn.out, hst1.out]
  have hlt1 := hs1.lt
  have T1 : Tab w1 := hT.on hb1
  clear HC hle hs1
  go_wp2_with (go_at_call 51; (with_reducible refine HN.mono ?_); rintro r w2 ⟨hb2, hs2, v2, rfl, hv2⟩; rw [hn.out] at hv2; subst hv2; rw [hst1.out] at hs2)
  have B2 : Below w.heap.size w w2 := hb1.trans (hb2.below (Nat.le_trans (by omega) hb1.size) (by simp; exact hS))
  clear HN hb2
  go_loopw [11, 5, 6] (fun v11 v5 _ wr => ∃ (j : Nat) (xs : List Ev) (st : St), j ≤ n ∧ v11 = .int .u64 (j : Int) ∧ xs.length = j ∧ rd MX n st1 [] = rd MX (n - j) st xs ∧ SQ wr S st ∧ OwE wr (S + 1) v5 xs ∧ Below w.heap.size w wr ∧ Tab wr) (fun v11 _ _ _ => 1024 - (intOf v11).toNat)
  case atStart => exact ⟨0, [], st1, Nat.zero_le _, rfl, rfl, rfl, hs2, OwE.nil _ _, B2, hT.on B2⟩
  case round =>
    obtain ⟨j, xs, st, hj, rfl, hxl, hrd, hs, ho, hb, hTr⟩ := hrel
    by_cases hlt : j < n
    · have hlt' : (j : Int) < (n : Int) := by omega
      have HX := next_any hs hTr (by omega)
      have HO := Hid.mk ho
      have HXL : Hid (xs.length = j) := hxl
      cases hg : goodE (nextE MX st).1 with
      | false =>
        have HQ : Hid (readE MX bs = none) := by rw [HRD.out, hrd]; exact Hid.mk (rd_bad (by omega) hg)
        have HGX : ∀ W, Tab W → Calls Tryd.prog 8 #[.agg (evA (nextE MX st).1)] W fun r w' => r = .returned (.bool false) ∧ Below W.heap.size W w' := fun W h => by
          have := good_any (nextE MX st).1 W h
          rwa [hg] at this
        clear hg hrd hxl ho
        generalize hne : nextE MX st = q at *
        obtain ⟨x, s4⟩ := q
        clear hne
        unfold evA at HX HGX
        dsimp only at HX HGX
        go_wp2_with (first
          | (go_at_call 46; (with_reducible refine HX.mono ?_); rintro r w4 ⟨rfl, hs4, hb4⟩; have B4 := hb.trans (hb4.below hb.size (by simp; exact hS)); have Ba := (Below.refl _ w4).alloc (Nat.le_refl _) (.cells #[.int .i64 x.kd, .int .i64 x.ac, .int .i64 x.th, .int .i64 x.va, .int .i64 x.pg, .int .i64 x.pc, .int .i64 (x.rs 0), .int .i64 (x.rs 1), .int .i64 (x.rs 2), .int .i64 (x.rs 3), .int .i64 (x.rs 4), .int .i64 (x.rs 5), .int .i64 (x.rs 6), .int .i64 (x.rs 7), .int .i64 x.dp] 26); have T5 := (hT.on B4).on Ba)
          | (go_at_call 8; (with_reducible refine (HGX _ T5).mono ?_); rintro r w5 ⟨rfl, hb5⟩))
        go_ret2
        refine ⟨by rw [HQ.out]; exact rfl, ?_⟩
        have B5 := B4.trans (Ba.mono B4.size)
        exact B5.trans (hb5.mono B5.size)
      | true =>
        have hrd' := rd_step (M := MX) (n := n - j) (st := st) (xs := xs) (by omega) hg
        have HR2 : Hid (rd MX n st1 [] = rd MX (n - (j + 1)) (nextE MX st).2 (xs ++ [(nextE MX st).1])) := Hid.mk (hrd.trans (by rw [hrd']; congr 1))
        have HGX : ∀ W, Tab W → Calls Tryd.prog 8 #[.agg (evA (nextE MX st).1)] W fun r w' => r = .returned (.bool true) ∧ Below W.heap.size W w' := fun W h => by
          have := good_any (nextE MX st).1 W h
          rwa [hg] at this
        clear hg hrd hrd' hxl ho
        generalize hne : nextE MX st = q at *
        obtain ⟨x, s4⟩ := q
        clear hne
        dsimp only at HX HGX HR2
        unfold evA at HX HGX
        have EV1 : Hid (∀ W : World, EV (W.alloc (.cells #[.int .i64 x.kd, .int .i64 x.ac, .int .i64 x.th, .int .i64 x.va, .int .i64 x.pg, .int .i64 x.pc, .int .i64 (x.rs 0), .int .i64 (x.rs 1), .int .i64 (x.rs 2), .int .i64 (x.rs 3), .int .i64 (x.rs 4), .int .i64 (x.rs 5), .int .i64 (x.rs 6), .int .i64 (x.rs 7), .int .i64 x.dp] 26)) (some ⟨W.heap.size, 0, none⟩) [x]) := fun W => ev_one W x
        go_wp2_with (first
          | (go_at_call 46; (with_reducible refine HX.mono ?_); rintro r w4 ⟨rfl, hs4, hb4⟩; have B4 := hb.trans (hb4.below hb.size (by simp; exact hS)); have Ba := (Below.refl _ w4).alloc (Nat.le_refl _) (.cells #[.int .i64 x.kd, .int .i64 x.ac, .int .i64 x.th, .int .i64 x.va, .int .i64 x.pg, .int .i64 x.pc, .int .i64 (x.rs 0), .int .i64 (x.rs 1), .int .i64 (x.rs 2), .int .i64 (x.rs 3), .int .i64 (x.rs 4), .int .i64 (x.rs 5), .int .i64 (x.rs 6), .int .i64 (x.rs 7), .int .i64 x.dp] 26); have T5 := (hT.on B4).on Ba; have Eb := Cel.new w4 (evA x) 26)
          | (go_at_call 8; (with_reducible refine (HGX _ T5).mono ?_); rintro r w5 ⟨rfl, hb5⟩; have E5 : Cel w5 w4.heap.size (evA x) 26 := Eb.below hb5; have y0 : w5.cell? ⟨w4.heap.size, 0, none⟩ = some (.int .i64 x.kd) := E5.cell rfl; have y1 : w5.cell? ⟨w4.heap.size, 1, none⟩ = some (.int .i64 x.ac) := E5.cell rfl; have y2 : w5.cell? ⟨w4.heap.size, 2, none⟩ = some (.int .i64 x.th) := E5.cell rfl; have y3 : w5.cell? ⟨w4.heap.size, 3, none⟩ = some (.int .i64 x.va) := E5.cell rfl; have y4 : w5.cell? ⟨w4.heap.size, 4, none⟩ = some (.int .i64 x.pg) := E5.cell rfl; have y5 : w5.cell? ⟨w4.heap.size, 5, none⟩ = some (.int .i64 x.pc) := E5.cell rfl; have y6 : w5.cell? ⟨w4.heap.size, 6, none⟩ = some (.int .i64 (x.rs 0)) := E5.cell rfl; have y7 : w5.cell? ⟨w4.heap.size, 7, none⟩ = some (.int .i64 (x.rs 1)) := E5.cell rfl; have y8 : w5.cell? ⟨w4.heap.size, 8, none⟩ = some (.int .i64 (x.rs 2)) := E5.cell rfl; have y9 : w5.cell? ⟨w4.heap.size, 9, none⟩ = some (.int .i64 (x.rs 3)) := E5.cell rfl; have y10 : w5.cell? ⟨w4.heap.size, 10, none⟩ = some (.int .i64 (x.rs 4)) := E5.cell rfl; have y11 : w5.cell? ⟨w4.heap.size, 11, none⟩ = some (.int .i64 (x.rs 5)) := E5.cell rfl; have y12 : w5.cell? ⟨w4.heap.size, 12, none⟩ = some (.int .i64 (x.rs 6)) := E5.cell rfl; have y13 : w5.cell? ⟨w4.heap.size, 13, none⟩ = some (.int .i64 (x.rs 7)) := E5.cell rfl; have y14 : w5.cell? ⟨w4.heap.size, 14, none⟩ = some (.int .i64 x.dp) := E5.cell rfl; have B5 : Below w4.heap.size w4 w5 := Ba.trans (hb5.mono Ba.size); have o5 := ((HO.out.but hb4 (by simp)).below B5).below ((Below.refl _ w5).alloc (Nat.le_refl _) (.cells #[.int .i64 x.kd, .int .i64 x.ac, .int .i64 x.th, .int .i64 x.va, .int .i64 x.pg, .int .i64 x.pc, .int .i64 (x.rs 0), .int .i64 (x.rs 1), .int .i64 (x.rs 2), .int .i64 (x.rs 3), .int .i64 (x.rs 4), .int .i64 (x.rs 5), .int .i64 (x.rs 6), .int .i64 (x.rs 7), .int .i64 x.dp] 26)))
          | (at_builtin; refine wpList_appE rfl _ _ rfl (S + 1) _ xs rfl o5 _ _ _ [x] rfl rfl (EV1.out w5) (by rw [HXL.out]; simp; omega) (by have := hs4.lt; have := B5.size; simp; omega) ?_; intro v6 w6 ho6 hg6 hs6))
        go_roundw
        case rel =>
          have Bc : Below w5.heap.size w5 (w5.alloc (.cells #[.int .i64 x.kd, .int .i64 x.ac, .int .i64 x.th, .int .i64 x.va, .int .i64 x.pg, .int .i64 x.pc, .int .i64 (x.rs 0), .int .i64 (x.rs 1), .int .i64 (x.rs 2), .int .i64 (x.rs 3), .int .i64 (x.rs 4), .int .i64 (x.rs 5), .int .i64 (x.rs 6), .int .i64 (x.rs 7), .int .i64 x.dp] 26)) := (Below.refl _ w5).alloc (Nat.le_refl _) _
          have B6 : Below w4.heap.size w4 (w5.alloc (.cells #[.int .i64 x.kd, .int .i64 x.ac, .int .i64 x.th, .int .i64 x.va, .int .i64 x.pg, .int .i64 x.pc, .int .i64 (x.rs 0), .int .i64 (x.rs 1), .int .i64 (x.rs 2), .int .i64 (x.rs 3), .int .i64 (x.rs 4), .int .i64 (x.rs 5), .int .i64 (x.rs 6), .int .i64 (x.rs 7), .int .i64 x.dp] 26)) := B5.trans (Bc.mono B5.size)
          have hsq := (hs4.keep (But.of_below B6)).but (But.grow hg6) (fun y hy => by
            have := (o5.lt (Option.mem_toList.1 hy)).1
            omega)
          have Bw := B4.trans (B6.mono B4.size)
          have Bf := below_grown Bw hg6 (o5.lower (by omega)) Bw.size
          exact ⟨j + 1, xs ++ [x], s4, by omega, by simp, by rw [List.length_append, HXL.out]; rfl, HR2.out, hsq, ho6, Bf, hT.on Bf⟩
        case measure =>
          simp [intOf]
          omega
    · obtain rfl : j = n := by omega
      rw [Nat.sub_self] at hrd
      have HE := end_any S st wr hs
      by_cases hz : st = (0, [])
      · have HQ : Hid (readE MX bs = some xs) := by
          rw [HRD.out, hrd]
          unfold rd
          rw [if_pos hz]
          exact Hid.mk rfl
        rw [hz, show endN (0, []) = 0 from rfl] at HE
        have HO := Hid.mk (ho.lower (B := w.heap.size) (by omega))
        clear hrd hz ho hxl
        go_wp2_with (go_at_call 52; (with_reducible refine HE.mono ?_); rintro r w' ⟨rfl, hw⟩; subst w')
        go_ret2
        exact ⟨by rw [HQ.out]; exact ⟨_, rfl, HO.out⟩, hb⟩
      · have HQ : Hid (readE MX bs = none) := by
          rw [HRD.out, hrd]
          unfold rd
          rw [if_neg hz]
          exact Hid.mk rfl
        have hez : endN st ≠ 0 := fun h => hz (end_zero h)
        have hez' : ((endN st : Int) == 0) = false := by simp; exact hez
        generalize (endN st : Int) = z at HE hez'
        clear hrd hz ho hxl hez
        go_wp2_with (go_at_call 52; (with_reducible refine HE.mono ?_); rintro r w' ⟨rfl, hw⟩; subst w')
        go_ret2
        exact ⟨by rw [HQ.out]; exact rfl, hb⟩
end Go.Proofs.YteiidkojofaamaaDoor
