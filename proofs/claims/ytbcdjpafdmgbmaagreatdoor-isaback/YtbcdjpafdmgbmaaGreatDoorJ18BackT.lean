/- A source of bytes: Read. -/
/- Parse: the program's. -/
import Derived.Test.YtbcdjpafdmgbmaaGreatDoorJ03BackT
import Derived.Test.YtbcdjpafdmgbmaaGreatDoorJ17BackT
import Derived.Test.YtbcdjpafdmgbmaaGreatDoorJ12BackT
namespace Go.Proofs.YtbcdjpafdmgbmaaGreatDoor
open Go.RowKit

theorem eql_s22 (a : Addr) (n c : Nat) (W : World) : Sem.run Tryz.prog (binOp .eql 24 (.slice (some a) n c) (.slice none 0 0)) W = .ok (.bool false) W := by kernel_rfl
theorem eql_n22 (n c : Nat) (W : World) : Sem.run Tryz.prog (binOp .eql 24 (.slice none n c) (.slice none 0 0)) W = .ok (.bool true) W := by kernel_rfl

section
variable {B : Nat} {a : Option Addr} {c : Nat} {bs : List UInt8} {w : World}
set_option maxHeartbeats 400000 in
theorem clone_any (h : Byts w B a c bs) (hl : bs.length ≤ 100000) :
    Calls Tryz.prog 28 #[.slice a bs.length c] w fun e w' => ∃ v, e = .returned v ∧ Own w' w.heap.size v bs ∧ Below w.heap.size w w' := by
  cases a with
  | none =>
    have e : bs = [] := by
      rcases h with ⟨_, e⟩ | ⟨G, o, e, _⟩
      · exact e
      · cases e
    subst e
    have eq := eql_n22 0 c
    go_enter Tryz.func28, Tryz.ntmps28
    go_wp2
    go_ret
    exact ⟨_, rfl, own_nil _ _, Below.refl _ _⟩
  | some ad =>
    have eq := eql_s22 ad bs.length c
    have hn := own_nob w
    have h' : Byts (w.alloc (.cells #[] 5)) (max B 0) (some ad) c bs := (h.up (by omega)).but (S := []) ((But.refl [] w).alloc _) (by simp)
    go_enter Tryz.func28, Tryz.ntmps28
    go_wp2_with (at_builtin; refine wpList_bown rfl _ _ rfl w.heap.size _ [] rfl hn _ _ _ _ bs rfl rfl h' (by simp; omega) (by simp) ?_; intro v3 w3 ho3 hg3)
    go_ret
    exact ⟨_, rfl, ho3, ((Below.refl _ w).alloc (Nat.le_refl _) _).trans hg3⟩

set_option maxHeartbeats 400000 in
theorem read_any (h : Byts w B a c bs) (hl : bs.length ≤ 100000) :
    Calls Tryz.prog 12 #[.slice a bs.length c] w fun e w' => ∃ S, e = .returned (.pointer (some ⟨S, 0, none⟩)) ∧ w.heap.size ≤ S ∧ SQ w' S (0, bs) ∧ Below w.heap.size w w' := by
  have hc := clone_any h hl
  go_enter Tryz.func12, Tryz.ntmps12
  go_wp2_with (go_at_call 28; refine hc.mono ?_; rintro e w1 ⟨v, rfl, ho, hb⟩; obtain ⟨a1, c1, rfl, hy⟩ := ho.byts)
  go_ret
  refine ⟨_, rfl, hb.size, ⟨bs, ⟨a1, c1, ?_, hy.but (S := []) ((But.refl [] w1).alloc _) (by simp)⟩, fun _ => rfl, fun e => absurd rfl e⟩, hb.alloc hb.size _⟩
  exact heap_alloc_new w1 _
end
end Go.Proofs.YtbcdjpafdmgbmaaGreatDoor
namespace Go.Proofs.YtbcdjpafdmgbmaaGreatDoor
open Go.RowKit Go.Shelf
attribute [local go_sem] Oper.semAt_some

/-- What Parse tells: a program and no error, or none and that it is bad. -/
def ParV (lo : Nat) (o : Option (List Ins)) (w' : World) (v : Value) (k : IntKind) : Prop :=
  match o with
  | some p => ∃ x, v = .tuple #[x, .int k 0] ∧ Ow w' lo x p
  | none => v = .tuple #[.slice none 0 0, .int k 10]

theorem ow_sl {w : World} {B n : Nat} {v : Value} {xs : List Ins} (h : Ow w B v xs) (hn : xs.length = n) : ∃ a c, v = .slice a n c ∧ PV w a xs := by
  subst hn
  obtain ⟨a, c, e, _, h2, _⟩ := h.sl
  exact ⟨a, c, e, h2⟩

theorem ow_but {w w' : World} {B : Nat} {v : Value} {xs : List Ins} {S : List Nat} (h : Ow w B v xs) (hb : But S w w') (hS : ∀ x ∈ S, x < B) : Ow w' B v xs := h.put (fun k hk => hb.block k (h.lt hk).2 (fun hm => by have := hS k hm; have := (h.lt hk).1; omega))

set_option maxRecDepth 100000 in
set_option maxHeartbeats 4000000 in
theorem parse_any {a : Option Addr} {c Bd : Nat} {bs : List UInt8} {w : World} (h : Byts w Bd a c bs) (hl : bs.length ≤ 100000) (hT : Tab w) :
    Calls Tryz.prog 6 #[.slice a bs.length c] w fun e w' => ∃ o v, Res bs o ∧ e = .returned v ∧ ParV w.heap.size o w' v .i64 ∧ Below w.heap.size w w' := by
  have HR := read_any h hl
  generalize hL : bs.length = L at HR ⊢
  clear hL
  have HN : ∀ (W : World) S, SQ W S (0, bs) → Calls Tryz.prog 13 #[.pointer (some ⟨S, 0, none⟩), .int .u64 64] W fun e w' => GotS S W (fun (n : Nat) v _ => v = .int .u64 (n : Int)) (numT 64) 0 (0, bs) e w' := fun W S hs => src28 (0, bs) W hs 64
  have hI := Hid.mk (inv_start bs)
  have hle := inv_le bs
  go_enter Tryz.func6, Tryz.ntmps6
  go_wp2_with (first
    | (go_at_call 12; (with_reducible refine HR.mono ?_); rintro e w1 ⟨S, rfl, hS, hs1, hb1⟩)
    | (go_at_call 13; (with_reducible refine (HN _ _ hs1).mono ?_); rintro e w2 ⟨hb2, hs2, v2, rfl, hv2⟩; subst hv2))
  have hbw : Below w.heap.size w w2 := hb1.trans (hb2.below hb1.size (by simpa using hS))
  have hSl := hs2.lt
  generalize (getS (numT 64) 0 (0, bs)).1 = n at *
  generalize (getS (numT 64) 0 (0, bs)).2 = s2 at *
  clear HR HN h hs1 hb1 hb2
  go_loopw [10, 5, 11, 12, 13, 14, 15, 16, 17] (fun p q _ _ _ _ _ _ _ wr => ∃ (i : Nat) (ps : List Ins) (st : St), i ≤ n ∧ p = .int .u64 i ∧ Hid (Inv bs n i ps st) ∧ SQ wr S st ∧ Ow wr (S + 1) q ps ∧ Below w.heap.size w wr) (fun p _ _ _ _ _ _ _ _ _ => n - (intOf p).toNat)
  case atStart => exact ⟨0, [], s2, by omega, rfl, hI, hs2, Ow.nil _ _, hbw⟩
  case round =>
    obtain ⟨i, ps, st, hi, rfl, hI, hs, ho, hb⟩ := hrel
    have hlp : ps.length ≤ 64 := by rw [hI.out.len]; omega
    obtain ⟨m, hm⟩ : ∃ m, ps.length = m := ⟨_, rfl⟩
    have Hm := Hid.mk hm
    obtain ⟨pa, pc, ev, hpv⟩ := ow_sl ho hm
    subst ev
    by_cases hlt : i < n
    · have HX := next_any hs hT hb hS
      have hl2 : (i : Int) < (n : Int) := by omega
      have hst := Hid.mk (hI.out.step hlt (l := minI) (m := maxI) (by unfold minI; omega) (by unfold maxI; omega))
      rcases hr : nextP minI maxI st with ⟨⟨x0, x1, x2, x3⟩, st'⟩
      rw [hr] at HX hst
      simp only [insC] at HX hst
      clear hr hpv hm
      go_wp2_with (first
        | (go_at_call 14; (with_reducible refine HX.mono ?_); rintro e w3 ⟨rfl, hb3, hs3⟩; have ho3 := ow_but ho hb3 (by simp); have hz3 := hs3.lt)
        | (at_builtin; refine wpList_appI rfl _ _ rfl (S + 1) _ ps rfl (ho3.below ((Below.refl _ w3).alloc (Nat.le_refl _) _)) _ 1 1 [(x0, x1, x2, x3)] rfl rfl (pv_one _ _ _ _ _ _) (by omega) (by simp; omega) ?_; intro v4 w4 ho4 hg4 hw4; obtain ⟨a4, c4, ev4, _⟩ := ow_sl (n := m + 1) ho4 (by simp [Hm.out]); subst ev4))
      have hw34 : But [] w3 (w3.alloc (.cells #[.int .i64 x0, .int .i64 x1, .int .i64 x2, .int .i64 x3] 37)) := (But.refl [] w3).alloc _
      have hb4 := but_of hg4
      have hrow : ∀ y ∈ (Value.slice pa m pc).ownBlock.toList, S < y := fun y hy => by have := (ho.lt (k := y) (by simpa using hy)).1; omega
      have hs4 := (hs3.keep hw34).but hb4 hrow
      have hbz := hb.trans (hb3.below hb.size (by simpa using hS))
      have hbz2 := hbz.trans (hw34.to_below.mono hbz.size)
      have hb5 := hbz2.trans (hb4.below hbz2.size (fun y hy => by have := hrow y hy; omega))
      go_roundw
      case rel => exact ⟨i + 1, _, st', by omega, by simp, hst, hs4, ho4, hb5⟩
      case measure =>
        simp [intOf]
        omega
    · obtain rfl : i = n := by omega
      have HE := end_any S st wr hs
      have HW := whole_any pc hpv (hT.on hb)
      rw [hm] at HW
      by_cases he : endN st = 0
      · rw [he] at HE
        have he2 : st.1 = 0 ∧ st.2 = [] := by
          unfold endN at he
          by_cases hc : st.1 = 0 ∧ st.2 ≠ []
          · rw [if_pos hc] at he
            cases he
          · rw [if_neg hc] at he
            exact ⟨he, Classical.byContradiction (fun e => hc ⟨he, e⟩)⟩
        cases hw : wholeB ps with
        | true =>
          rw [hw] at HW
          have hres := Hid.mk (hI.out.done he2.1 he2.2 hw)
          clear he2 hm hpv hw
          go_wp2_with (first
            | (go_at_call 15; (with_reducible refine HE.mono ?_); rintro e w3 ⟨rfl, rfl⟩)
            | (go_at_call 7; (with_reducible refine HW.mono ?_); rintro e w4 ⟨rfl, hb4⟩))
          go_ret2
          exact ⟨some ps, _, hres, rfl, ⟨_, rfl, (ho.below hb4).lower (by omega)⟩, hb.trans (hb4.mono hb.size)⟩
        | false =>
          rw [hw] at HW
          have hres := Hid.mk (hI.out.nope (.inr (.inr hw)))
          clear he2 hm hpv hw
          go_wp2_with (first
            | (go_at_call 15; (with_reducible refine HE.mono ?_); rintro e w3 ⟨rfl, rfl⟩)
            | (go_at_call 7; (with_reducible refine HW.mono ?_); rintro e w4 ⟨rfl, hb4⟩))
          go_ret2
          exact ⟨none, _, hres, rfl, rfl, hb.trans (hb4.mono hb.size)⟩
      · have hres := Hid.mk (hI.out.nope (by
          unfold endN at he
          by_cases hc : st.1 = 0 ∧ st.2 ≠ []
          · exact .inr (.inl hc.2)
          · rw [if_neg hc] at he
            exact .inl he))
        have he3 : ((endN st : Nat) : Int) ≠ 0 := by omega
        generalize ((endN st : Nat) : Int) = z at *
        clear he hm hpv
        go_wp2_with (first
          | (go_at_call 15; (with_reducible refine HE.mono ?_); rintro e w3 ⟨rfl, rfl⟩)
          | (go_at_call 7; (with_reducible refine HW.mono ?_); rintro e w4 ⟨rfl, hb4⟩))
        go_ret2
        exact ⟨none, _, hres, rfl, rfl, hb⟩

end Go.Proofs.YtbcdjpafdmgbmaaGreatDoor
