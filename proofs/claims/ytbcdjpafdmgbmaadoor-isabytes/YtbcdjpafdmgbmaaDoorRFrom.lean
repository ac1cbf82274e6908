/- The reference's From and Parse. -/
import Derived.Test.YtbcdjpafdmgbmaaDoorROf
import Derived.Test.YtbcdjpafdmgbmaaDoorRGood
import Derived.Test.YtbcdjpafdmgbmaaDoorRBytes
import Derived.Test.YtbcdjpafdmgbmaaDoorParse
import Derived.Test.YtbcdjpafdmgbmaaDoorCRefC
import Derived.Test.YtbcdjpafdmgbmaaDoorCRefD
namespace Go.Proofs.YtbcdjpafdmgbmaaDoor
open Go.RowKit Go.Shelf

theorem RQ.up {S : List Nat} {w w' : World} {lo M : Nat} {st : St} (h : RQ w lo M st) (hb : But S w w') (hS : ∀ y ∈ S, M < y) : RQ w' lo M st := by
  obtain ⟨⟨a, c, h1, h2, h3, h4⟩, h5⟩ := h
  exact ⟨⟨a, c, (hb.block M (Array.getElem?_eq_some_iff.1 h1).1 (fun e => by have := hS M e; omega)).trans h1, h2.but hb (fun y hy => by have := hS y hy; omega), h3, h4⟩, h5⟩
theorem getS_short {α : Type} {f : List UInt8 → Nat × α × List UInt8} {z : α} {st : St} (hf : ∀ bs, (f bs).2.2.length ≤ bs.length) : (getS f z st).2.2.length ≤ st.2.length := by
  unfold getS
  split
  · exact hf _
  · exact Nat.le_refl _
theorem intT_short (l m : Int) (bs : List UInt8) : (intT l m bs).2.2.length ≤ bs.length := by
  have h := numG_short bs 0 0
  unfold intT
  dsimp only
  split
  · split
    · simp
    · exact h
  · simp
theorem numT_short (m : Nat) (bs : List UInt8) : (numT m bs).2.2.length ≤ bs.length := by
  have h := numG_short bs 0 0
  unfold numT
  dsimp only
  split
  · split
    · simp
    · exact h
  · exact h
theorem byteT_short (bs : List UInt8) : (byteT bs).2.2.length ≤ bs.length := by
  cases bs <;> simp [byteT]
theorem readN_short (l m : Int) (st : St) : ∀ n, (readN l m n st).2.2.length ≤ st.2.length
  | 0 => Nat.le_refl _
  | n + 1 => Nat.le_trans (getS_short (intT_short l m)) (readN_short l m st n)
abbrev loR : Int := -4611686018427387904
abbrev hiR : Int := 4611686018427387904

/-- What From comes to. -/
def FromV (lo M : Nat) (bs : List UInt8) (w' : World) (e : Ending) : Prop :=
  (∃ v, e = .returned (.tuple #[v, .bool false]) ∧ Res bs none) ∨
  ∃ v ps st n, e = .returned (.tuple #[v, .bool true]) ∧ Ow w' lo v ps ∧ RQ w' lo M st ∧ Inv bs n n ps st ∧ wholeB ps = true ∧ st.1 = 0

set_option maxRecDepth 100000 in
set_option maxHeartbeats 8000000 in
theorem rfrom_any {lo M : Nat} {bs : List UInt8} {w : World} (h : RQ w lo M (0, bs)) (hl : bs.length ≤ 100000) (hlo : lo ≤ w.heap.size) :
    Calls Tryd.prog 40 #[.pointer (some ⟨M, 0, none⟩)] w fun e w' => FromV lo M bs w' e ∧ Below lo w w' := by
  have hM := h.1.base
  have HN : Calls Tryd.prog 66 #[.pointer (some ⟨M, 0, none⟩), .int .u64 64] w fun e w' => GotR lo M w (fun (n : Nat) v _ => v = .int .u64 (n : Int)) (numT 64) 0 (0, bs) e w' := rs40 (0, bs) h hl 64
  have hI := Hid.mk (inv_start bs)
  have hle := inv_le bs
  have hsh : (getS (numT 64) 0 (0, bs)).2.2.length ≤ 100000 := Nat.le_trans (getS_short (numT_short 64)) hl
  go_enter Tryd.func40, Tryd.ntmps40
  go_wp2_with (go_at_call 66; (with_reducible refine HN.mono ?_); rintro e w2 ⟨hb2, hs2, v2, rfl, hv2⟩; subst hv2)
  have hbw : Below lo w w2 := hb2.below hlo (by simpa using hM)
  generalize (getS (numT 64) 0 (0, bs)).1 = n at *
  generalize (getS (numT 64) 0 (0, bs)).2 = s2 at *
  clear HN h hb2
  go_loopw [4, 5, 6, 7, 10, 11, 12, 13, 14, 15, 16, 17, 18, 19, 20, 21, 22, 23, 24, 25, 26, 27, 28, 29, 30, 31, 32, 33, 34, 35, 36, 37, 38, 39, 40, 41, 42, 43, 44] (fun p q _ _ _ _ _ _ _ _ _ _ _ _ _ _ _ _ _ _ _ _ _ _ _ _ _ _ _ _ _ _ _ _ _ _ _ _ _ wr => ∃ (i : Nat) (ps : List Ins) (st : St), i ≤ n ∧ p = .int .u64 ((n - i : Nat) : Int) ∧ Hid (Inv bs n i ps st) ∧ RQ wr lo M st ∧ st.2.length ≤ 100000 ∧ Ow wr (M + 1) q ps ∧ Below lo w wr) (fun p _ _ _ _ _ _ _ _ _ _ _ _ _ _ _ _ _ _ _ _ _ _ _ _ _ _ _ _ _ _ _ _ _ _ _ _ _ _ _ => (intOf p).toNat)
  case atStart => exact ⟨0, [], s2, by omega, by simp, hI, hs2, hsh, Ow.nil _ _, hbw⟩
  case round =>
    obtain ⟨i, ps, st, hi, rfl, hI, hs, hsl, ho, hb⟩ := hrel
    clear hs2 hbw hsh
    have hlp : ps.length ≤ 64 := by rw [hI.out.len]; omega
    obtain ⟨m, hm⟩ : ∃ m, ps.length = m := ⟨_, rfl⟩
    have Hm := Hid.mk hm
    obtain ⟨pa, pc, ev, hpv⟩ := ow_sl ho hm
    subst ev
    have hE := hs.1.c1
    have hMl := hs.lt
    have hlr : lo ≤ wr.heap.size := Nat.le_trans hlo hb.size
    by_cases h0 : st.1 = 0
    · by_cases hlt : i < n
      · have HB := rs45 st hs
        have hin : ((n - i : Nat) : Int) > 0 := by omega
        rw [h0] at hE
        cases hop : opB (opI (getS byteT 0 st).1).1 with
        | false =>
          have hres := Hid.mk (hI.out.op hlt hop)
          have HS := rshape_any (opI (getS byteT 0 st).1).1
          rw [shL_out hop] at HS
          have hwr : wrap64 ((getS byteT 0 st).1.toNat : Int) = (opI (getS byteT 0 st).1).1 := by
            have := (getS byteT 0 st).1.toNat_lt
            unfold wrap64 opI
            simp only
            omega
          clear hop hpv hm
          go_wp2_with (first
            | (go_at_call 67; (with_reducible refine HB.mono ?_); rintro e w3 ⟨hb3, hs3, v3, rfl, hv3⟩; subst hv3)
            | (go_at_call 12; (with_reducible refine (HS _).mono ?_); rintro e w4 ⟨rfl, rfl⟩))
          go_ret2
          exact ⟨.inl ⟨_, rfl, hres⟩, hb.trans (hb3.below hlr (by simpa using hM))⟩
        | true =>
          have hst := Hid.mk (hI.out.step hlt (l := loR) (m := hiR) (by unfold loR; omega) (by unfold hiR; omega))
          have hnr := Hid.mk (next_read loR hiR st)
          have HS := rshape_any (opI (getS byteT 0 st).1).1
          obtain ⟨l0, l1, l2, hc⟩ := shL_three hop
          rw [hc] at HS
          have hwr : wrap64 ((getS byteT 0 st).1.toNat : Int) = (opI (getS byteT 0 st).1).1 := by
            have := (getS byteT 0 st).1.toNat_lt
            unfold wrap64 opI
            simp only
            omega
          have HU := rused_any (opI (getS byteT 0 st).1) hop
          have eC : insC (opI (getS byteT 0 st).1) = #[.int .i64 (opI (getS byteT 0 st).1).1, .int .i64 0, .int .i64 0, .int .i64 0] := rfl
          rw [eC] at HU
          have eX : Hid (opI (getS byteT 0 st).1 = ((opI (getS byteT 0 st).1).1, 0, 0, 0)) := Hid.mk rfl
          have hs1l : (getS byteT 0 st).2.2.length ≤ 100000 := Nat.le_trans (getS_short byteT_short) hsl
          have hul : (usedL (opI (getS byteT 0 st).1)).length = (usQ (opI (getS byteT 0 st).1).1).length := by unfold usedL; rw [List.length_map]
          have hu3 := usQ_len (opI (getS byteT 0 st).1).1
          have hneq : (⟨#[l0, l1, l2]⟩ : ByteArray) ≠ ⟨#[]⟩ := by intro e; cases e
          clear hc eC hpv hm
          rw [eX.out] at hnr
          generalize usedL (opI (getS byteT 0 st).1) = ul at *
          generalize (opI (getS byteT 0 st).1).1 = op at *
          obtain ⟨mu, hmu⟩ : ∃ m, (usQ op).length = m := ⟨_, rfl⟩
          rw [hmu] at hul hu3
          have Hmu := Hid.mk hmu
          clear hmu
          go_wp2_with (first
            | (go_at_call 67; (with_reducible refine HB.mono ?_); rintro e w3 ⟨hb3, hs3, v3, rfl, hv3⟩; subst hv3)
            | (go_at_call 12; (with_reducible refine (HS _).mono ?_); rintro e w4 ⟨rfl, rfl⟩)
            | (go_at_call 46; (with_reducible refine (HU _).mono ?_); rintro e w5 ⟨v5, rfl, hr5, hb5⟩; obtain ⟨ua, uc, ev5, _⟩ := row_sh hr5 hul; subst ev5))
          have hb35 := hb5
          have hz3 := hb3.size
          have hbA := hb.trans (hb3.below hlr (by simpa using hM))
          have hb05 := hbA.trans (hb35.mono (Nat.le_trans hlr hz3))
          have hs5 := hs3.up (But.of_below (S := []) hb35) (by simp)
          have ho5 := (ow_but ho hb3 (by simp)).below hb35
          have hz5 := hs5.lt
          have hpb : ∀ y, (Value.slice pa m pc).ownBlock = some y → M < y ∧ y < w5.heap.size := fun y hy => by have := ho5.lt hy; omega
          generalize (getS byteT 0 st).2 = s1 at *
          rw [Hmu.out] at hnr
          rw [hnr.out] at hst
          clear hnr HB HS HU hs3 hb3 hr5 hb5 hb35 hbA hs ho hb hE hsl h0
          go_loopw [31, 7, 32, 33, 34, 35, 36, 37, 38] (fun p q _ _ _ _ _ _ _ wr => ∃ k : Nat, k ≤ mu ∧ p = .int .i64 k ∧ RowI wr w5.heap.size q (readN loR hiR k s1).1 ∧ RQ wr lo M (readN loR hiR k s1).2 ∧ Ow wr (M + 1) (.slice pa m pc) ps ∧ Below lo w wr ∧ w5.heap.size ≤ wr.heap.size) (fun p _ _ _ _ _ _ _ _ _ => 3 - (intOf p).toNat)
          case atStart => exact ⟨0, by omega, rfl, World.ownsRow_nil _ _ _ _, hs5, ho5, hb05, Nat.le_refl _⟩
          case round =>
            obtain ⟨k, hk, rfl, hr6, hs6, ho6, hb6, hz6⟩ := hrel
            have hrl := readN_len loR hiR s1 k
            obtain ⟨ra, rc, ev6⟩ := row_sl hr6 hrl
            subst ev6
            have hlr6 : lo ≤ wr.heap.size := by omega
            by_cases hku : k < mu
            · have hku2 : (k : Int) < (mu : Int) := by omega
              have HI : Calls Tryd.prog 68 #[.pointer (some ⟨M, 0, none⟩), .int .i64 (-4611686018427387904), .int .i64 4611686018427387904] wr fun e w' => GotR lo M wr (fun (n : Int) v _ => v = .int .i64 n) (intT loR hiR) 0 (readN loR hiR k s1).2 e w' := rs41 _ hs6 (Nat.le_trans (readN_short _ _ _ _) hs1l) loR hiR
              have hn1 := Hid.mk (show (readN loR hiR (k + 1) s1).1 = (readN loR hiR k s1).1 ++ [(getS (intT loR hiR) 0 (readN loR hiR k s1).2).1] from rfl)
              have hn2 := Hid.mk (show (readN loR hiR (k + 1) s1).2 = (getS (intT loR hiR) 0 (readN loR hiR k s1).2).2 from rfl)
              have hown : wr.ownsRow w5.heap.size 3 1 (.slice ra k rc) k ((readN loR hiR k s1).1.map (Value.int .i64)) := by unfold RowI at hr6; rw [hrl] at hr6; exact hr6
              have Hrl := Hid.mk hrl
              clear hrl
              generalize (readN loR hiR k s1).1 = rl at *
              generalize (readN loR hiR k s1).2 = rs at *
              go_wp2_with (first
                | (go_at_call 68; (with_reducible refine HI.mono ?_); rintro e w7 ⟨hb7, hs7, v7, rfl, hv7⟩; subst hv7; have ho7 := (ownsRow_put hown (fun y hy => hb7.block y (World.ownsRow.lt hown y hy).2 (by have := (World.ownsRow.lt hown y hy).1; simp; omega))).alloc (.cells #[.int .i64 (getS (intT loR hiR) 0 rs).1] 3); have hz7 := hb7.size)
                | (at_builtin; refine wpList_app rfl _ _ rfl w5.heap.size _ k _ rfl ho7 _ 1 1 [(getS (intT loR hiR) 0 rs).1] rfl rfl (reads_one _ _) (by omega) (by simp; omega) ?_; intro v8 w8 ho8 hg8; obtain ⟨a8, c8, ev8⟩ := own_shape ho8; subst ev8))
              have hrow : ∀ y ∈ (Value.slice ra k rc).ownBlock.toList, w5.heap.size ≤ y := fun y hy => (World.ownsRow.lt hown y (by simpa using hy)).1
              have bA : But [] w7 (w7.alloc (.cells #[.int .i64 (getS (intT loR hiR) 0 rs).1] 3)) := (But.refl [] w7).alloc _
              have b8 := but_of hg8
              have ho9 := (((ow_but ho6 hb7 (by simp)).below bA.to_below).put (fun y hy => b8.block y (by have := (ho6.lt hy).2; simp; omega) (fun hm => by have := hrow y hm; have := hpb y hy; omega)))
              have hs9 := (hs7.up bA (by simp)).up b8 (fun y hy => by have := hrow y hy; omega)
              have hbq := (hb6.trans (hb7.below hlr6 (by simpa using hM))).trans (bA.to_below.mono (by omega))
              have hb9 := hbq.trans (b8.below (Nat.le_trans hlo hbq.size) (fun y hy => by have := hrow y hy; omega))
              have hz8 := hg8.size
              simp only [World.size_alloc] at hz8
              go_roundw
              case rel =>
                refine ⟨k + 1, by omega, by simp, ?_, by rw [hn2.out]; exact hs9, ho9, hb9, by omega⟩
                rw [hn1.out]
                unfold RowI
                rw [List.length_append, Hrl.out]
                exact ho8
              case measure =>
                simp [intOf]
                omega
            · obtain rfl : k = mu := by omega
              have HO := rof_any hop hr6 (by rw [hrl, Hmu.out])
              rcases hX : setQ (usQ op) (readN loR hiR k s1).1 (op, 0, 0, 0) with ⟨x0, x1, x2, x3⟩
              rw [hX] at HO hst
              simp only [insC] at HO hst
              have hsh := Nat.le_trans (readN_short loR hiR s1 k) hs1l
              generalize (readN loR hiR k s1).2 = rs at *
              clear hX hrl
              have hsub : IntKind.u64.wrap (((n - i : Nat) : Int) - 1) = ((n - (i + 1) : Nat) : Int) := by rw [IntKind.wrap_u64]; omega
              go_wp2_with (first
                | (go_at_call 69; (with_reducible refine HO.mono ?_); rintro e w7 ⟨rfl, hb7⟩; have ho7 := ho6.below hb7; have hz7 := hb7.size)
                | (at_builtin; refine wpList_appI rfl _ _ rfl (M + 1) _ ps rfl (ho7.below ((Below.refl _ w7).alloc (Nat.le_refl _) _)) _ 1 1 [(x0, x1, x2, x3)] rfl rfl (pv_one _ _ _ _ _ _) (by omega) (by simp; omega) ?_; intro v8 w8 ho8 hg8 hw8; obtain ⟨a8, c8, ev8, _⟩ := ow_sl (n := m + 1) ho8 (by simp [Hm.out]); subst ev8))
              have bA : But [] w7 (w7.alloc (.cells #[.int .i64 x0, .int .i64 x1, .int .i64 x2, .int .i64 x3] 49)) := (But.refl [] w7).alloc _
              have b8 := but_of hg8
              have hrow : ∀ y ∈ (Value.slice pa m pc).ownBlock.toList, M < y := fun y hy => (hpb y (by simpa using hy)).1
              have hs9 := ((hs6.up (But.of_below (S := []) hb7) (by simp)).up bA (by simp)).up b8 hrow
              have hbq := (hb6.trans (hb7.mono hlr6)).trans (bA.to_below.mono (by omega))
              have hb9 := hbq.trans (b8.below (Nat.le_trans hlo hbq.size) (fun y hy => by have := hrow y hy; omega))
              go_roundw
              case rel => exact ⟨i + 1, _, rs, by omega, by simp, hst, hs9, hsh, ho8, hb9⟩
              case measure =>
                simp [intOf]
                omega
      · obtain rfl : i = n := by omega
        have HW := rwhole_any pc hpv
        rw [hm] at HW
        rw [h0] at hE
        cases hw : wholeB ps with
        | true =>
          rw [hw] at HW
          have hI2 := Hid.mk hI.out
          clear hm hpv
          have Hw := Hid.mk hw
          clear hw
          go_wp2_with (go_at_call 18; (with_reducible refine HW.mono ?_); rintro e w4 ⟨rfl, hb4⟩)
          go_ret2
          exact ⟨.inr ⟨_, ps, st, _, rfl, (ho.below hb4).lower (by omega), hs.up (But.of_below (S := []) hb4) (by simp), hI.out, Hw.out, h0⟩, hb.trans (hb4.mono hlr)⟩
        | false =>
          rw [hw] at HW
          have hres := Hid.mk (hI.out.nope (.inr (.inr hw)))
          clear hw hm hpv
          go_wp2_with (go_at_call 18; (with_reducible refine HW.mono ?_); rintro e w4 ⟨rfl, hb4⟩)
          go_ret2
          exact ⟨.inl ⟨_, rfl, hres⟩, hb.trans (hb4.mono hlr)⟩
    · have hres := Hid.mk (hI.out.stop h0)
      have h0i : ((st.1 : Nat) : Int) ≠ 0 := by omega
      generalize ((st.1 : Nat) : Int) = z at *
      clear hm hpv h0
      by_cases hlt : i < n
      · have hin : ((n - i : Nat) : Int) > 0 := by omega
        go_wp2_with fail
        go_ret2
        exact ⟨.inl ⟨_, rfl, hres⟩, hb⟩
      · have hin : ((n - i : Nat) : Int) = 0 := by omega
        go_wp2_with fail
        go_ret2
        exact ⟨.inl ⟨_, rfl, hres⟩, hb⟩

end Go.Proofs.YtbcdjpafdmgbmaaDoor
