/- The statements' light. -/
import Derived.Test.YtcffmdimfmpheaaDoorMlActM
import Derived.Deep.CutRange
namespace Go.Proofs.YtcffmdimfmpheaaDoor
open Go Go.RowKit
set_option linter.unusedSimpArgs false

theorem but_setCells {b : Nat} : ∀ (vs : List Value) (o : Nat) (w : World), But [b] w (w.setCells b o vs)
  | [], _, w => But.refl _ w
  | v :: vs, o, w => ((But.refl [b] w).set (p := ⟨b, o, none⟩) (by simp) v).trans (but_setCells vs (o + 1) _)
theorem cells18 {w : World} {b o : Nat} {t : Ac} {la : Option Addr} {lc : Nat} (h : w.rangeAt b o (c18 t la lc)) : w.cell? ⟨b, o, none⟩ = some (.int .i64 t.kd) ∧ w.cell? ⟨b, o + 1, none⟩ = some (.int .i64 t.n) ∧ w.cell? ⟨b, o + 2, none⟩ = some (.int .i64 t.e.kd) ∧ w.cell? ⟨b, o + 3, none⟩ = some (.int .i64 t.e.ac) ∧ w.cell? ⟨b, o + 4, none⟩ = some (.int .i64 t.e.th) ∧ w.cell? ⟨b, o + 5, none⟩ = some (.int .i64 t.e.va) ∧ w.cell? ⟨b, o + 6, none⟩ = some (.int .i64 t.e.pg) ∧ w.cell? ⟨b, o + 7, none⟩ = some (.int .i64 t.e.pc) ∧ w.cell? ⟨b, o + 8, none⟩ = some (.int .i64 (t.e.rs 0)) ∧ w.cell? ⟨b, o + 9, none⟩ = some (.int .i64 (t.e.rs 1)) ∧ w.cell? ⟨b, o + 10, none⟩ = some (.int .i64 (t.e.rs 2)) ∧ w.cell? ⟨b, o + 11, none⟩ = some (.int .i64 (t.e.rs 3)) ∧ w.cell? ⟨b, o + 12, none⟩ = some (.int .i64 (t.e.rs 4)) ∧ w.cell? ⟨b, o + 13, none⟩ = some (.int .i64 (t.e.rs 5)) ∧ w.cell? ⟨b, o + 14, none⟩ = some (.int .i64 (t.e.rs 6)) ∧ w.cell? ⟨b, o + 15, none⟩ = some (.int .i64 (t.e.rs 7)) ∧ w.cell? ⟨b, o + 16, none⟩ = some (.int .i64 t.e.dp) ∧ w.cell? ⟨b, o + 17, none⟩ = some (.slice la t.l.length lc) :=
  ⟨h 0 _ rfl, h 1 _ rfl, h 2 _ rfl, h 3 _ rfl, h 4 _ rfl, h 5 _ rfl, h 6 _ rfl, h 7 _ rfl, h 8 _ rfl, h 9 _ rfl, h 10 _ rfl, h 11 _ rfl, h 12 _ rfl, h 13 _ rfl, h 14 _ rfl, h 15 _ rfl, h 16 _ rfl, h 17 _ rfl⟩
theorem th18 (w : World) : (w.alloc (.cells #[.int .i64 0, .int .i64 0, .int .i64 0, .int .i64 0, .int .i64 0, .int .i64 0, .int .i64 0, .int .i64 0, .int .i64 0, .int .i64 0, .int .i64 0, .int .i64 0, .int .i64 0, .int .i64 0, .int .i64 0, .int .i64 0, .int .i64 0, .slice none 0 0] 36)).there w.heap.size 0 18 := fun k hk => by
  have hc := Cel.new w #[.int .i64 0, .int .i64 0, .int .i64 0, .int .i64 0, .int .i64 0, .int .i64 0, .int .i64 0, .int .i64 0, .int .i64 0, .int .i64 0, .int .i64 0, .int .i64 0, .int .i64 0, .int .i64 0, .int .i64 0, .int .i64 0, .int .i64 0, .slice none 0 0] 36
  rw [Nat.zero_add]
  exact ⟨by rw [hc.cell (Array.getElem?_eq_getElem (by simpa using hk))]; rfl, hc.fz k⟩
theorem new18 (w : World) (t : Ac) (la : Option Addr) (lc : Nat) : Below w.heap.size w ((w.alloc (.cells #[.int .i64 0, .int .i64 0, .int .i64 0, .int .i64 0, .int .i64 0, .int .i64 0, .int .i64 0, .int .i64 0, .int .i64 0, .int .i64 0, .int .i64 0, .int .i64 0, .int .i64 0, .int .i64 0, .int .i64 0, .int .i64 0, .int .i64 0, .slice none 0 0] 36)).setCells w.heap.size 0 (c18 t la lc)) :=
  ((Below.refl _ w).alloc (Nat.le_refl _) _).trans ((but_setCells (c18 t la lc) 0 _).below (by simp) (by simp))
theorem size18_new (w : World) (t : Ac) (la : Option Addr) (lc : Nat) : w.heap.size + 1 ≤ ((w.alloc (.cells #[.int .i64 0, .int .i64 0, .int .i64 0, .int .i64 0, .int .i64 0, .int .i64 0, .int .i64 0, .int .i64 0, .int .i64 0, .int .i64 0, .int .i64 0, .int .i64 0, .int .i64 0, .int .i64 0, .int .i64 0, .int .i64 0, .int .i64 0, .slice none 0 0] 36)).setCells w.heap.size 0 (c18 t la lc)).heap.size := by
  have := (but_setCells (b := w.heap.size) (c18 t la lc) 0 (w.alloc (.cells #[.int .i64 0, .int .i64 0, .int .i64 0, .int .i64 0, .int .i64 0, .int .i64 0, .int .i64 0, .int .i64 0, .int .i64 0, .int .i64 0, .int .i64 0, .int .i64 0, .int .i64 0, .int .i64 0, .int .i64 0, .int .i64 0, .int .i64 0, .slice none 0 0] 36))).size
  rw [World.size_alloc] at this
  exact this
/-- Are acts light, the sum so far being q? -/
def lgt : Int → List Ac → Bool
  | _, [] => true
  | q, t :: r => if 300 < IntKind.i64.wrap (q + (t.l.length : Int)) then false else lgt (IntKind.i64.wrap (q + (t.l.length : Int))) r
def lgtB (xs : List Ac) : Bool := if xs.length ≤ 80 then lgt (xs.length : Int) xs else false
theorem lgtB_len {xs : List Ac} (h : lgtB xs = true) : xs.length ≤ 80 := by
  unfold lgtB at h
  split at h
  · assumption
  · cases h
theorem ac_drop {xs : List Ac} {j : Nat} (h : j < xs.length) : xs.drop j = ac xs j :: xs.drop (j + 1) := by
  rw [List.drop_eq_getElem_cons h]
  congr 1
  unfold ac
  rw [List.getD_eq_getElem?_getD, List.getElem?_eq_getElem h]
  rfl
set_option maxHeartbeats 2000000 in
set_option maxRecDepth 100000 in
theorem light_fn {w : World} {sa : Option Addr} {xs : List Ac} (ca : Nat) (ha : Acts w sa xs) :
    Calls Tryd.prog 7 #[.slice sa xs.length ca] w fun e w' => e = .returned (.bool (lgtB xs)) ∧ Below w.heap.size w w' := by
  obtain ⟨n, hN⟩ : ∃ n, Hid (xs.length = n) := ⟨_, rfl⟩
  obtain ⟨bl, hB⟩ : ∃ bl, Hid (lgtB xs = bl) := ⟨_, rfl⟩
  rw [hN.out, hB.out]
  by_cases h80 : n ≤ 80
  · have h80' : ¬ (80 : Int) < (n : Int) := by omega
    have HB : Hid (lgt (n : Int) (xs.drop 0) = bl) := by
      have := hB.out
      unfold lgtB at this
      rw [hN.out, if_pos h80] at this
      exact this
    go_enter Tryd.func7, Tryd.ntmps7
    go_wp2_with fail
    go_loopw [12, 3, 5] (fun v s _ wr => ∃ (j : Nat) (q : Int), j ≤ n ∧ v = .int .i64 j ∧ s = .int .i64 q ∧ Hid (lgt q (xs.drop j) = bl) ∧ Below w.heap.size w wr) (fun v _ _ _ => 80 - (intOf v).toNat)
    case atStart => exact ⟨0, (n : Int), Nat.zero_le _, rfl, rfl, HB, Below.refl _ _⟩
    case round =>
      obtain ⟨j, q, hj, rfl, rfl, hq, hb⟩ := hrel
      by_cases hlt : j < n
      · have hjx : j < xs.length := by rw [hN.out]; exact hlt
        obtain ⟨b, o, rfl, la, lc, hr, -⟩ := ha.below hb j hjx
        have hlt' : (j : Int) < (n : Int) := by omega
        have HQ : Hid ((if 300 < IntKind.i64.wrap (q + ((ac xs j).l.length : Int)) then false else lgt (IntKind.i64.wrap (q + ((ac xs j).l.length : Int))) (xs.drop (j + 1))) = bl) := by
          have := hq.out
          rw [ac_drop hjx] at this
          exact this
        clear hq
        generalize ac xs j = t at *
        obtain ⟨z, hz⟩ : ∃ z, IntKind.i64.wrap (q + (t.l.length : Int)) = z := ⟨_, rfl⟩
        have HQ2 : Hid ((if 300 < z then false else lgt z (xs.drop (j + 1))) = bl) := by rw [← hz]; exact HQ
        clear HQ
        go_upto_region 6 with fail
        refine wp_region_lit ?_
        iterate 3 go_step
        refine wpList_load_mid rfl 36 (.tmp 14) rfl b (o + j * 18) rfl (c18 t la lc) _ hr Tryd.underlying36 rfl size18 ?_
        iterate 3 go_step
        refine wpList_store_mid rfl 36 (.tmp 5) (.tmp 15) rfl wr.heap.size 0 (c18 t la lc).toArray rfl rfl (th18 wr) size18 (c18_one _ _ _) ?_
        rw [show (c18 t la lc).toArray.toList = c18 t la lc from rfl]
        have hA1 := World.rangeAt_setCells_same (wr.alloc (.cells #[.int .i64 0, .int .i64 0, .int .i64 0, .int .i64 0, .int .i64 0, .int .i64 0, .int .i64 0, .int .i64 0, .int .i64 0, .int .i64 0, .int .i64 0, .int .i64 0, .int .i64 0, .int .i64 0, .int .i64 0, .int .i64 0, .int .i64 0, .slice none 0 0] 36)) wr.heap.size 0 (c18 t la lc) (th18 wr)
        have bA := new18 wr t la lc
        have hsz := size18_new wr t la lc
        have HSZ := Hid.mk hsz
        generalize (wr.alloc (.cells #[.int .i64 0, .int .i64 0, .int .i64 0, .int .i64 0, .int .i64 0, .int .i64 0, .int .i64 0, .int .i64 0, .int .i64 0, .int .i64 0, .int .i64 0, .int .i64 0, .int .i64 0, .int .i64 0, .int .i64 0, .int .i64 0, .int .i64 0, .slice none 0 0] 36)).setCells wr.heap.size 0 (c18 t la lc) = W1 at *
        clear hsz
        obtain ⟨-, -, -, z17⟩ := range18 hA1
        simp only [Nat.zero_add] at z17
        have B1 := below2 hb hb.size bA
        clear hr hA1 bA
        by_cases h3 : 300 < z
        · have HF : Hid (false = bl) := by have := HQ2.out; rw [if_pos h3] at this; exact this
          clear HQ2
          go_wp2_with fail
          go_ret
          exact ⟨by rw [← HF.out]; rfl, B1⟩
        · have HF : Hid (lgt z (xs.drop (j + 1)) = bl) := by have := HQ2.out; rw [if_neg h3] at this; exact this
          clear HQ2
          go_wp2_with fail
          go_roundw
          case rel => exact ⟨j + 1, z, by omega, by simp, rfl, HF, B1⟩
          case measure =>
            simp [intOf]
            omega
      · obtain rfl : j = n := by omega
        have HF : Hid (true = bl) := by
          have := hq.out
          rw [List.drop_eq_nil_of_le (by rw [hN.out]; exact Nat.le_refl _)] at this
          exact this
        clear hq
        go_wp2_with fail
        go_ret
        exact ⟨by rw [← HF.out]; rfl, hb⟩
  · have h80' : (80 : Int) < (n : Int) := by omega
    have HF : Hid (false = bl) := by
      have := hB.out
      unfold lgtB at this
      rw [hN.out, if_neg h80] at this
      exact this
    go_enter Tryd.func7, Tryd.ntmps7
    go_wp2_with fail
    go_ret
    exact ⟨by rw [← HF.out]; rfl, Below.refl _ _⟩
theorem light_any {w : World} {sa : Option Addr} {xs : List Ac} (ca : Nat) (ha : Acts w sa xs) :
    Calls Tryd.prog 7 #[.slice sa xs.length ca] w fun e w' => ∃ b, e = .returned (.bool b) ∧ (b = true → xs.length ≤ 80) ∧ Below w.heap.size w w' :=
  (light_fn ca ha).mono fun _ _ ⟨h1, h2⟩ => ⟨_, h1, lgtB_len, h2⟩
end Go.Proofs.YtcffmdimfmpheaaDoor
