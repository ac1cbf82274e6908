/- The reference's source: as it lies in memory; Read, fail, num. -/
import Derived.Test.YtbcdjpafdmgbmaaDoorCRead
import Derived.Test.YtbcdjpafdmgbmaaDoorCGet
import Derived.Test.YtbcdjpafdmgbmaaDoorCTo
namespace Go.Proofs.YtbcdjpafdmgbmaaDoor
open Go.RowKit

/-- A source of the reference's at M, all its blocks from lo on: the error x, the bytes bs left. -/
def RR (w : World) (lo M x : Nat) (bs : List UInt8) : Prop := ∃ a c, w.heap[M]? = some (.cells #[.slice a bs.length c, .int .i64 (x : Int)] 107 (0, 0)) ∧ Byts w M a c bs ∧ lo ≤ M ∧ ∀ G o, a = some ⟨G, o, none⟩ → bs ≠ [] → lo ≤ G
def RQ (w : World) (lo M : Nat) (st : Nat × List UInt8) : Prop := RR w lo M st.1 st.2 ∧ (st.1 ≠ 0 → st.2 = [])

section
variable {w w' : World} {lo M x : Nat} {bs : List UInt8} {st : Nat × List UInt8}
theorem RR.lt (h : RR w lo M x bs) : M < w.heap.size := by
  obtain ⟨a, c, h, _⟩ := h
  exact (Array.getElem?_eq_some_iff.1 h).1
theorem RR.base (h : RR w lo M x bs) : lo ≤ M := by
  obtain ⟨a, c, _, _, h, _⟩ := h
  exact h
theorem RR.but {S : List Nat} (h : RR w lo M x bs) (hb : But S w w') (hS : ∀ y ∈ S, y < lo) : RR w' lo M x bs := by
  have hl := h.lt
  obtain ⟨a, c, h, k, hlo, hG⟩ := h
  refine ⟨a, c, (hb.block M hl (fun e => by have := hS M e; omega)).trans h, ?_, hlo, hG⟩
  rcases k with k | ⟨G, o, e, hGM, hl, hm, hc⟩
  · exact .inl k
  · refine .inr ⟨G, o, e, hGM, hl, hm, fun j b hj => hb.cell' (hc j b hj) (fun hx => ?_)⟩
    have h1 := hG G o e (fun e0 => by rw [e0] at hj; simp at hj)
    have h2 := hS G hx
    omega
theorem RR.keep (h : RR w lo M x bs) (hb : But [] w w') : RR w' lo M x bs := h.but hb (by simp)
theorem RR.c0 (h : RR w lo M x bs) : ∃ a c, w.cell? ⟨M, 0, none⟩ = some (.slice a bs.length c) ∧ Byts w M a c bs := by
  obtain ⟨a, c, h, k, _⟩ := h
  exact ⟨a, c, by simp [World.cell?, h], k⟩
theorem RR.c1 (h : RR w lo M x bs) : w.cell? ⟨M, 1, none⟩ = some (.int .i64 (x : Int)) := by
  obtain ⟨a, c, h, _⟩ := h
  simp [World.cell?, h]
theorem RR.fz (h : RR w lo M x bs) (j : Nat) : w.frozen? ⟨M, j, none⟩ = false := by
  obtain ⟨a, c, h, _⟩ := h
  simp [World.frozen?, h]
theorem RQ.lt (h : RQ w lo M st) : M < w.heap.size := h.1.lt
theorem RQ.but {S : List Nat} (h : RQ w lo M st) (hb : But S w w') (hS : ∀ y ∈ S, y < lo) : RQ w' lo M st := ⟨h.1.but hb hS, h.2⟩
theorem RQ.keep (h : RQ w lo M st) (hb : But [] w w') : RQ w' lo M st := h.but hb (by simp)
end

theorem RR.end {w : World} {lo M n : Nat} {bs : List UInt8} (h : RR w lo M 0 bs) {a : Option Addr} {c : Nat} (h0 : w.cell? ⟨M, 0, none⟩ = some (.slice a bs.length c)) (hn : n ≤ bs.length) {a' : Option Addr} {k c' : Nat} (ha : (a' = a.map (fun x => x.add n) ∧ c' = c - n) ∨ (n = c ∧ a' = a ∧ c' = 0)) (hk : k = bs.length - n) :
    RR (w.setCell ⟨M, 0, none⟩ (.slice a' k c')) lo M 0 (bs.drop n) := by
  obtain ⟨a1, c1, hb, hy, hlo, hG⟩ := h
  have e : a1 = a ∧ c1 = c := by
    simp [World.cell?, hb] at h0
    exact h0
  obtain ⟨rfl, rfl⟩ := e
  subst hk
  refine ⟨a', c', ?_, ?_, hlo, ?_⟩
  · rw [List.length_drop]
    exact heap_setCell_same w M 0 _ 107 _ hb
  · refine Byts.but (S := [M]) ?_ ((But.refl [M] w).set (by simp) _) (by simp)
    rcases hy with ⟨rfl, rfl⟩ | ⟨G, o, rfl, hGM, hl, hm, hc⟩
    · refine .inl ⟨?_, by simp⟩
      rcases ha with ⟨_, rfl⟩ | ⟨_, _, rfl⟩ <;> omega
    · rcases ha with ⟨rfl, rfl⟩ | ⟨h1, rfl, rfl⟩
      · exact Byts.drop (.inr ⟨G, o, rfl, hGM, hl, hm, hc⟩) rfl hn (.inl (by simp [WideShapes.add_plain]))
      · have := Byts.drop (.inr ⟨G, o, rfl, hGM, hl, hm, hc⟩ : Byts w M (some ⟨G, o, none⟩) c1 bs) rfl hn (.inr ⟨h1, rfl⟩)
        rw [show c1 - n = 0 by omega] at this
        exact this
  · intro G o e he
    have hne : bs ≠ [] := fun e0 => he (by rw [e0]; simp)
    rcases ha with ⟨rfl, _⟩ | ⟨_, rfl, _⟩
    · cases a1 with
      | none => cases e
      | some ad =>
        obtain ⟨b, o', sp⟩ := ad
        rcases hy with ⟨_, e0⟩ | ⟨G', o'', e', _⟩
        · exact absurd e0 hne
        · cases e'
          simp [WideShapes.add_plain] at e
          rw [← e.1]
          exact hG b o' rfl hne
    · exact hG G o e hne

section
variable {B : Nat} {a : Option Addr} {c : Nat} {bs : List UInt8} {w : World}
set_option maxHeartbeats 400000 in
theorem rread (h : Byts w B a c bs) (hl : bs.length ≤ 100000) :
    Calls Tryd.prog 39 #[.slice a bs.length c] w fun e w' => ∃ M, e = .returned (.pointer (some ⟨M, 0, none⟩)) ∧ RQ w' w.heap.size M (0, bs) ∧ Below w.heap.size w w' := by
  have hn := own_nob w
  have h' : Byts (w.alloc (.cells #[] 5)) (max B 0) a c bs := (h.up (by omega)).but (S := []) ((But.refl [] w).alloc _) (by simp)
  have hb0 : Below w.heap.size w (w.alloc (.cells #[] 5)) := (Below.refl _ w).alloc (Nat.le_refl _) _
  go_enter Tryd.func39, Tryd.ntmps39
  go_wp2_with (at_builtin; refine wpList_bown rfl _ _ rfl w.heap.size _ [] rfl hn _ _ _ _ bs rfl rfl h' (by simp; omega) (by simp) ?_; intro v3 w3 ho3 hg3; rw [List.nil_append] at ho3; have hlo := own_lt ho3; obtain ⟨a1, c1, rfl, hy⟩ := ho3.byts)
  go_ret
  have hb3 := hb0.trans hg3
  refine ⟨_, rfl, ⟨⟨a1, c1, heap_alloc_new w3 _, hy.but (S := []) ((But.refl [] w3).alloc _) (by simp), hb3.size, fun G o e _ => hlo G (by rw [e]; rfl)⟩, fun e => absurd rfl e⟩, hb3.alloc hb3.size _⟩
end

section
variable {lo M : Nat} {bs : List UInt8} {w : World}
set_option maxHeartbeats 400000 in
theorem rfail (h : RR w lo M 0 bs) (y : Nat) :
    Calls Tryd.prog 93 #[.pointer (some ⟨M, 0, none⟩), .int .i64 (y : Int)] w fun e w' => e = .returned (.tuple #[]) ∧ RQ w' lo M (y, []) ∧ But [M] w w' := by
  obtain ⟨a, c, h0, hb⟩ := h.c0
  have h1 := h.c1
  have f0 := h.fz 0
  have f1 := h.fz 1
  have hlo := h.base
  obtain ⟨a2, c2, hm, _⟩ := h
  have e1 : (w.setCell ⟨M, 1, none⟩ (.int .i64 (y : Int))).heap[M]? = some (.cells #[.slice a2 bs.length c2, .int .i64 (y : Int)] 107 (0, 0)) := heap_setCell_same w M 1 _ 107 _ hm
  have e2 : ((w.setCell ⟨M, 1, none⟩ (.int .i64 (y : Int))).setCell ⟨M, 0, none⟩ (.slice none 0 0)).heap[M]? = some (.cells #[.slice none 0 0, .int .i64 (y : Int)] 107 (0, 0)) := heap_setCell_same _ M 0 _ 107 _ e1
  have f0' : (w.setCell ⟨M, 1, none⟩ (.int .i64 (y : Int))).frozen? ⟨M, 0, none⟩ = false := by simp [World.frozen?, e1]
  have c0' : (w.setCell ⟨M, 1, none⟩ (.int .i64 (y : Int))).cell? ⟨M, 0, none⟩ = some (.slice a2 bs.length c2) := by simp [World.cell?, e1]
  have HF : Hid (RQ ((w.setCell ⟨M, 1, none⟩ (.int .i64 (y : Int))).setCell ⟨M, 0, none⟩ (.slice none 0 0)) lo M (y, [])) := Hid.mk ⟨⟨none, 0, e2, .inl ⟨rfl, rfl⟩, hlo, fun G o e => by cases e⟩, fun _ => rfl⟩
  clear hm e1 e2
  go_enter Tryd.func93, Tryd.ntmps93
  go_wp2_with fail
  go_end0
  exact ⟨rfl, HF.out, ((But.refl [M] w).set (by simp) _).set (by simp) _⟩
end

theorem ret_num {k : IntKind} {a b : Int} (h : a = b) : Ending.returned (.int k a) = .returned (.int k b) := by rw [h]

theorem and127 {x : Int} (h0 : 0 ≤ x) (h1 : x < 256) : bits BinOp.and IntKind.u8 x 127 = x % 128 := by
  have h : ∀ n : Fin 256, bits BinOp.and IntKind.u8 ((n.val : Nat) : Int) 127 = ((n.val : Nat) : Int) % 128 := by decide +kernel
  have := h ⟨x.toNat, by omega⟩
  simp only at this
  rwa [show ((x.toNat : Nat) : Int) = x by omega] at this

theorem Byts.at {w : World} {B c j : Nat} {a : Option Addr} {bs : List UInt8} {b : UInt8} (h : Byts w B a c bs) (hj : bs[j]? = some b) : ∃ G o, a = some ⟨G, o, none⟩ ∧ w.cell? ⟨G, o + j, none⟩ = some (.int .u8 (b.toNat : Int)) := by
  rcases h with ⟨_, e⟩ | ⟨G, o, e, hG, hl, hm, hc⟩
  · rw [e] at hj
    simp at hj
  · exact ⟨G, o, e, hc j b hj⟩

section
variable {lo M : Nat} {bs : List UInt8} {w : World}
set_option maxRecDepth 100000 in
set_option maxHeartbeats 4000000 in
theorem rnum_any (h : RR w lo M 0 bs) (hbs : bs.length ≤ 100000) :
    Calls Tryd.prog 92 #[.pointer (some ⟨M, 0, none⟩)] w fun e w' => e = .returned (.int .u64 ((numG 0 0 bs).2.1 : Int)) ∧ RQ w' lo M ((numG 0 0 bs).1, (numG 0 0 bs).2.2) ∧ But [M] w w' := by
  generalize hR : (numG 0 0 bs).2.1 = R1
  generalize hR0 : (numG 0 0 bs).1 = R0
  generalize hR2 : (numG 0 0 bs).2.2 = R2
  have HR : Hid (numG 0 0 (bs.drop 0) = (R0, R1, R2)) := Hid.mk (by rw [← hR, ← hR0, ← hR2]; rfl)
  clear hR hR0 hR2
  obtain ⟨a, c, m0, hy⟩ := h.c0
  have m1 := h.c1
  have f0 := h.fz 0
  have hcl := hy.len
  have hcm := hy.cap
  unfold maxLen at hcm
  have q1 : (bs.length : Int) ≤ c := by omega
  have q2 : (c : Int) ≤ 9223372036854775807 := by omega
  have q3 : (bs.length : Int) ≤ 100000 := by omega
  have F9 := rfail h 9
  have F10 := rfail h 10
  go_enter Tryd.func92, Tryd.ntmps92
  go_wp2_with fail
  go_loopw [3, 4, 5] (fun n s _ wr => ∃ (i acc : Nat), i ≤ 9 ∧ i ≤ bs.length ∧ n = .int .u64 (acc : Nat) ∧ s = .int .i64 (i : Int) ∧ Hid (acc < 2 ^ (7 * i)) ∧ Hid (numG (7 * i) acc (bs.drop i) = (R0, R1, R2)) ∧ wr = w) (fun _ s _ _ => 10 - (intOf s).toNat)
  case atStart => exact ⟨0, 0, by omega, by omega, rfl, rfl, Hid.mk (by omega), HR, rfl⟩
  case round =>
    obtain ⟨i, acc, hi, hil, rfl, rfl, hacc, HG, rfl⟩ := hrel
    have k0 : (0 : Int) ≤ (i : Int) := by omega
    have k1 : (i : Int) ≤ 9 := by omega
    by_cases hlt : i < bs.length
    · obtain ⟨b, hbj⟩ : ∃ b, bs[i]? = some b := ⟨bs[i], by simp⟩
      have hdr : bs.drop i = b :: bs.drop (i + 1) := by
        obtain ⟨_, e⟩ := List.getElem?_eq_some_iff.1 hbj
        rw [List.drop_eq_getElem_cons hlt, e]
      rw [hdr] at HG
      obtain ⟨G, o, rfl, hcell⟩ := hy.at hbj
      have hb256 : b.toNat < 256 := b.toNat_lt
      have k2 : (i : Int) < bs.length := by omega
      obtain ⟨z, hz⟩ : ∃ z : Int, (b.toNat : Int) = z := ⟨_, rfl⟩
      rw [hz] at hcell
      have k3 : 0 ≤ z := by omega
      have k4 : z < 256 := by omega
      clear HR hdr hbj F9
      cases hbad : badB (7 * i) b with
      | true =>
        have hq := HG.out
        rw [numG_bad hbad] at hq
        cases hq
        unfold badB at hbad
        simp at hbad
        rcases hbad with ⟨h1, h2⟩ | ⟨h1, h2⟩
        · have hz0 : z = 0 := by omega
          subst hz0
          have k5 : (0 : Int) < i := by omega
          clear hz HG
          by_cases h9 : i = 9
          · subst h9
            go_wp2_with (go_at_call 93; refine F10.mono ?_; rintro e w2 ⟨rfl, hq2, hb2⟩)
            go_ret
            exact ⟨rfl, hq2, hb2⟩
          · have k6 : ¬ (i : Int) = 9 := by omega
            go_wp2_with (go_at_call 93; refine F10.mono ?_; rintro e w2 ⟨rfl, hq2, hb2⟩)
            go_ret
            exact ⟨rfl, hq2, hb2⟩
        · obtain rfl : i = 9 := by omega
          have k5 : 1 < z := by omega
          clear hz HG h1 h2
          go_wp2_with (go_at_call 93; refine F10.mono ?_; rintro e w2 ⟨rfl, hq2, hb2⟩)
          go_ret
          exact ⟨rfl, hq2, hb2⟩
      | false =>
        obtain ⟨b0, b1⟩ := badB_out hbad
        have hm : z % 128 = ((b.toNat % 128 : Nat) : Int) := by omega
        have hor := or_up (acc := acc) (sh := 7 * i) hacc.out hm (up_fits hi (by omega) (fun e => by have := b1 (by omega); omega)) (by omega)
        have ha := and127 k3 k4
        have k7 : 0 ≤ z % 128 := by omega
        have k8 : z % 128 < 128 := by omega
        by_cases hl : b.toNat < 128
        · have hq := HG.out
          rw [numG_last hbad hl] at hq
          simp only [Prod.mk.injEq] at hq
          obtain ⟨rfl, rfl, rfl⟩ := hq
          have hmm : b.toNat % 128 = b.toNat := by omega
          rw [hmm] at hor
          have k5 : z < 128 := by omega
          have B0 : i ≠ 0 → 0 < z := fun e => by have := b0 (by omega); omega
          have B1 : i = 9 → z ≤ 1 := fun e => by have := b1 (by omega); omega
          have HO := Hid.mk hor
          have HB0 := Hid.mk B0
          have HB1 := Hid.mk B1
          clear hor hm hmm hbad b0 b1 HG hl hb256 F10 B0 B1 hz
          by_cases h9 : i = 9
          · subst h9
            have g1 := HB0.out (by omega)
            have g2 := HB1.out rfl
            obtain rfl : z = 1 := by omega
            have h9 := HO.out
            simp [IntKind.wrap_u64] at h9
            have H9 := Hid.mk h9
            clear h9
            by_cases hcn : c = 10
            · subst hcn
              have hend := h.end m0 (n := 10) (by omega) (a' := some ⟨G, o, none⟩) (k := 0) (c' := 0) (.inr ⟨rfl, rfl, rfl⟩) (by omega)
              go_wp2_with fail
              go_ret
              exact ⟨by simp; exact H9.out, ⟨hend, fun e => absurd rfl e⟩, (But.refl [M] wr).set (by simp) _⟩
            · have hend := h.end m0 (n := 10) (by omega) (a' := some ⟨G, o + 10, none⟩) (k := bs.length - 10) (c' := c - 10) (.inl ⟨by simp [WideShapes.add_plain], rfl⟩) rfl
              go_wp2_with fail
              go_ret
              exact ⟨by simp; exact H9.out, ⟨hend, fun e => absurd rfl e⟩, (But.refl [M] wr).set (by simp) _⟩
          · have k9 : ¬ (i : Int) = 9 := by omega
            have hz0 : i = 0 ∨ 0 < z := by
              by_cases e : i = 0
              · exact .inl e
              · exact .inr (HB0.out e)
            by_cases hcn : c = i + 1
            · have hend := h.end m0 (n := i + 1) (by omega) (a' := some ⟨G, o, none⟩) (k := 0) (c' := 0) (.inr ⟨hcn.symm, rfl, rfl⟩) (by omega)
              clear q2 hcm
              subst hcn
              rcases hz0 with e | e
              · have k10 : (i : Int) ≤ 0 := by omega
                clear e
                go_wp2_with fail
                all_goals
                  go_ret
                  exact ⟨ret_num HO.out, ⟨hend, fun e => absurd rfl e⟩, (But.refl [M] wr).set (by simp) _⟩
              · go_wp2_with fail
                all_goals
                  go_ret
                  exact ⟨ret_num HO.out, ⟨hend, fun e => absurd rfl e⟩, (But.refl [M] wr).set (by simp) _⟩
            · have hend := h.end m0 (n := i + 1) (by omega) (a' := some ⟨G, o + (i + 1), none⟩) (k := bs.length - (i + 1)) (c' := c - (i + 1)) (.inl ⟨by simp [WideShapes.add_plain], rfl⟩) rfl
              rcases hz0 with e | e
              · have k10 : (i : Int) ≤ 0 := by omega
                clear e
                go_wp2_with fail
                all_goals
                  go_ret
                  exact ⟨ret_num HO.out, ⟨hend, fun e => absurd rfl e⟩, (But.refl [M] wr).set (by simp) _⟩
              · go_wp2_with fail
                all_goals
                  go_ret
                  exact ⟨ret_num HO.out, ⟨hend, fun e => absurd rfl e⟩, (But.refl [M] wr).set (by simp) _⟩
        · have hq := HG.out
          rw [numG_more hbad hl] at hq
          have HQ : Hid (numG (7 * (i + 1)) (acc + b.toNat % 128 * 2 ^ (7 * i)) (bs.drop (i + 1)) = (R0, R1, R2)) := Hid.mk (by rw [← hq]; rfl)
          have HA : Hid (acc + b.toNat % 128 * 2 ^ (7 * i) < 2 ^ (7 * (i + 1))) := Hid.mk (up_lt hacc.out (by omega))
          have HO := Hid.mk hor
          have h9 : ¬ i = 9 := fun e => by have := b1 (by omega); omega
          have k5 : ¬ z < 128 := by omega
          have k6 : 0 < z := by omega
          have k9 : ¬ (i : Int) = 9 := by omega
          generalize acc + b.toNat % 128 * 2 ^ (7 * i) = Y at HQ HO HA
          clear hor hm hbad b0 b1 HG hl hb256 F10 hz hq
          go_wp2_with fail
          all_goals
            go_roundw
            case rel => exact ⟨i + 1, Y, by omega, by omega, by rw [HO.out], by simp, HA, HQ, by simp⟩
            case measure =>
              simp [intOf]
              omega
    · have hq := HG.out
      rw [List.drop_of_length_le (by omega), numG_nil] at hq
      cases hq
      have k2 : (bs.length : Int) ≤ i := by omega
      go_wp2_with (go_at_call 93; refine F9.mono ?_; rintro e w2 ⟨rfl, hq2, hb2⟩)
      go_ret
      exact ⟨rfl, hq2, hb2⟩
end

end Go.Proofs.YtbcdjpafdmgbmaaDoor
