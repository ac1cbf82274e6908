/- Regions that draw their order within a round: as without one; and where the order is forced, in that order. -/
/- Bytes: the program's. -/
import Derived.RangeFuncCalls
import Derived.OrdersIn
import Derived.TacticsIn
import Derived.Test.YtbcdjpafdmgbmaaGreatDoorJ05BackT
import Derived.Test.YtbcdjpafdmgbmaaGreatDoorJ12BackT
import Derived.Test.YtbcdjpafdmgbmaaGreatDoorJ14BackT
import Derived.Test.YtbcdjpafdmgbmaaGreatDoorJ13BackT
import Derived.Test.YtbcdjpafdmgbmaaGreatDoorJ07BackT
import Derived.Test.YtbcdjpafdmgbmaaGreatDoorJ10BackT
namespace Go.Proofs.YtbcdjpafdmgbmaaGreatDoor
open Go Go.RowKit

section
variable {P : Program} {ops : Array Oper} {md : Region.Mode} {Q : Exit → Act → World → Prop}

/-- No operation defers. -/
def noDeferB (ops : Array Oper) : Bool := ops.all fun o => match o.op with | .defer _ => false | _ => true

theorem noDefer_spec (h : noDeferB ops = true) (i : Nat) (o : Oper) (hi : ops[i]? = some o) : ∀ c, o.op ≠ .defer c := by
  intro c e
  have := Array.all_eq_true_iff_forall_mem.1 h o (Array.mem_of_getElem? hi)
  rw [e] at this
  cases this

theorem wpOpIn_round {l n i : Nat} {K K' : Act → World → Prop} {a : Act} {w : World} (hd : noDeferB ops = true) (hK : ∀ a w, K a w → K' a w)
    (h : wpOpIn Fence.wide n P ops Q i K a w) : wpOpIn (Fence.wide.inRound l) n P ops Q i K' a w := by
  refine wpOpIn_mono hK ?_
  unfold wpOpIn at *
  split
  · rename_i ho; simp only [ho] at h; exact h
  · rename_i o ho
    simp only [ho] at h
    split
    · rename_i hw
      simp only [hw, if_true] at h
      unfold Oper.wpIn at *
      rw [Oper.semAt_eq _ _ _ (noDefer_spec hd i o ho)] at h ⊢
      exact h
    · rename_i hw; simp only [hw] at h; exact h

theorem anyRound {l n : Nat} (hd : noDeferB ops = true) : ∀ {fuel : Nat} {listed : Array Bool} {a : Act} {w : World},
    wpAnyIn Fence.wide n P md ops Q fuel listed a w → wpAnyIn (Fence.wide.inRound l) n P md ops Q fuel listed a w
  | 0, _, _, _, h => h
  | _ + 1, _, _, _, h => ⟨h.1, fun i hi => wpOpIn_round hd (fun _ _ h' => anyRound hd h') (h.2 i hi)⟩

/-- From here on the order is forced: one behind the other. -/
def forcedB (md : Region.Mode) (ops : Array Oper) : Nat → Nat → Array Bool → Bool
  | 0, _, listed => (Region.ready md ops listed).isEmpty
  | f + 1, k, listed => (Region.ready md ops listed == [k]) && forcedB md ops f (k + 1) (listed.setIfInBounds k true)

theorem wpAnyIn_list {F : Fence} {n : Nat} : ∀ (l : List Oper) (k : Nat) {listed : Array Bool} {a : Act} {w : World}, (∀ j, j < l.length → l[j]? = ops[k + j]?) → forcedB md ops l.length k listed = true →
    wpListIn F n P ops Q l a w → wpAnyIn F n P md ops Q l.length listed a w
  | [], _, listed, a, w, _, hB, h => ⟨by simpa [forcedB] using hB, h⟩
  | o :: l, k, listed, a, w, hl, hB, h => by
    simp only [List.length_cons, forcedB, Bool.and_eq_true, beq_iff_eq] at hB
    have h0 : ops[k]? = some o := by simpa using (hl 0 (by simp)).symm
    refine wpAnyIn_all hB.1 (by simp) (fun i hi => ?_)
    simp only [List.mem_singleton] at hi
    subst hi
    have hw : wpOpIn F n P ops Q i (wpListIn F n P ops Q l) a w := by
      unfold wpOpIn
      rw [h0]
      exact h
    exact wpOpIn_mono (fun a' w' h' => wpAnyIn_list l (i + 1) (fun j hj => by have := hl (j + 1) (by simp; omega); simpa [Nat.add_assoc, Nat.add_comm 1 j] using this) hB.2 h') hw

theorem wpAnyIn_drop {F : Fence} {n : Nat} {L : List Oper} (k : Nat) {f : Nat} {listed : Array Bool} {a : Act} {w : World} (hf : (L.drop k).length = f) (hB : forcedB md L.toArray f k listed = true)
    (h : wpListIn F n P L.toArray Q (L.drop k) a w) : wpAnyIn F n P md L.toArray Q f listed a w := by
  subst hf
  exact wpAnyIn_list (L.drop k) k (fun j _ => by simp) hB h

end
end Go.Proofs.YtbcdjpafdmgbmaaGreatDoor
namespace Go.Proofs.YtbcdjpafdmgbmaaGreatDoor
open Go.RowKit Go.Shelf
attribute [local go_sem] Oper.semAt_some

/-- A box that holds bytes of the call's own. -/
structure Bx (W : World) (lo b : Nat) (l : List UInt8) : Prop where
  at_ : ∃ v, Cel W b #[v] 24 ∧ Own W lo v l
  lo : lo ≤ b
theorem own_fz {w w' : World} {lo : Nat} {v : Value} {l : List UInt8} (h : Own w lo v l) (hk : ∀ k, v.ownBlock = some k → w'.heap[k]? = w.heap[k]?) : Own w' lo v l := ownsRow_put h hk
/-- The row of a box is another block. -/
theorem row_ne {w : World} {lo b : Nat} {v u : Value} {l : List UInt8} (h : Own w lo v l) (hb : Cel w b #[u] 24) : v.ownBlock ≠ some b := by
  rcases h.2 with ⟨rfl, _⟩ | ⟨g, cap, cur, rfl, _, hg, _⟩
  · simp [Value.ownBlock]
  · intro e
    simp only [Value.ownBlock, Option.some.injEq] at e
    subst e
    rw [show w.heap[g]? = _ from hb] at hg
    cases hg
theorem Bx.below {W W' : World} {lo b : Nat} {l : List UInt8} (h : Bx W lo b l) (hb : Below W.heap.size W W') : Bx W' lo b l := by
  obtain ⟨v, h1, h2⟩ := h.at_
  exact ⟨⟨v, h1.below hb, h2.below hb⟩, h.lo⟩
theorem Bx.own_ {A B : World} {lo b : Nat} {l : List UInt8} {row : Option Nat} (h : Bx A lo b l) (hg : A.grownBy B row) (hr : ∀ r, row = some r → ∃ o : Obj, A.heap[r]? = some o ∧ o.isCells = false) : Bx B lo b l := by
  obtain ⟨v, h1, h2⟩ := h.at_
  refine ⟨⟨v, h1.own hg hr, ownsRow_put h2 (fun k e => ?_)⟩, h.lo⟩
  have hlt := (World.ownsRow.lt h2 k e).2
  refine hg.block k hlt (fun ek => ?_)
  obtain ⟨o, ho, hc⟩ := hr k ek.symm
  rcases h2.2 with ⟨rfl, _⟩ | ⟨g, cap, cur, rfl, _, hg2, _⟩
  · simp [Value.ownBlock] at e
  · simp only [Value.ownBlock, Option.some.injEq] at e
    subst e
    rw [hg2] at ho
    cases ho
    cases hc
/-- A store of new bytes into the box. -/
theorem Bx.put {W W1 : World} {lo b : Nat} {l l' : List UInt8} {v' : Value} (h : Bx W lo b l) (hb : Below W.heap.size W W1) (ho : Own W1 lo v' l') : Bx (W1.setCell ⟨b, 0, none⟩ v') lo b l' ∧ W1.frozen? ⟨b, 0, none⟩ = false := by
  obtain ⟨v, h1, _⟩ := h.at_
  have h3 := h1.below hb
  refine ⟨⟨⟨v', h3.set v', ownsRow_put ho (fun k ek => Below.heap_setCell _ _ _ _ (fun e => row_ne ho h3 (by rw [ek, e])))⟩, h.lo⟩, h3.fz 0⟩
theorem Bx.inn {W : World} {lo b : Nat} {l : List UInt8} (h : Bx W lo b l) : OwnIn (fun _ => [b]) W := by
  obtain ⟨v, h1, _⟩ := h.at_
  intro k hk
  simp at hk
  subst hk
  exact ⟨_, h1, rfl⟩
theorem Bx.lt {W : World} {lo b : Nat} {l : List UInt8} (h : Bx W lo b l) : b < W.heap.size := by
  obtain ⟨v, h1, _⟩ := h.at_
  exact h1.lt
/-- Only the box turns. -/
theorem kp_box {b base : Nat} {W W' : World} (hb : But [b] W W') (hin : OwnIn (fun _ => [b]) W) : Kp (fun _ => [b]) base W W' := by
  refine ⟨⟨hb.size, fun k o _ hk hc => ?_⟩, fun k o hk _ hn => (hb.block k (Array.getElem?_eq_some_iff.1 hk).1 hn).trans hk, fun _ _ h => h⟩
  refine (hb.block k (Array.getElem?_eq_some_iff.1 hk).1 (fun hS => ?_)).trans hk
  obtain ⟨o', ho', hc'⟩ := hin k hS
  rw [hk] at ho'
  cases ho'
  rw [hc] at hc'
  cases hc'
theorem but_box {b : Nat} {W W1 : World} (hb : Below W.heap.size W W1) (v : Value) : But [b] W (W1.setCell ⟨b, 0, none⟩ v) := (But.of_below hb).set (by simp) v
theorem own_sl {w : World} {lo n : Nat} {v : Value} {l : List UInt8} (h : Own w lo v l) (hn : l.length = n) : ∃ a c, v = .slice a n c ∧ Byts w w.heap.size a c l := by
  subst hn
  exact h.byts

/-- What an append to the box's bytes leaves. -/
theorem push_box {W W2 w2 : World} {lo b : Nat} {l l' : List UInt8} {v v' : Value} (hc : Cel W b #[v] 24) (ho : Own W lo v l) (hlo : lo ≤ b) (hb : But [] W W2) (ho2 : Own w2 lo v' l') (hg : W2.grownBy w2 v.ownBlock) :
    Bx (w2.setCell ⟨b, 0, none⟩ v') lo b l' ∧ But (b :: v.ownBlock.toList) W2 (w2.setCell ⟨b, 0, none⟩ v') ∧ w2.frozen? ⟨b, 0, none⟩ = false ∧ w2.cell? ⟨b, 0, none⟩ = some v := by
  have h2 := hc.but hb (by simp)
  have h3 : Cel w2 b #[v] 24 := h2.put (hg.block b h2.lt (fun e => row_ne ho hc e.symm))
  refine ⟨⟨⟨v', h3.set v', ownsRow_put ho2 (fun k ek => Below.heap_setCell _ _ _ _ (fun e => row_ne ho2 h3 (by rw [ek, e])))⟩, hlo⟩, ?_, h3.fz 0, h3.cell rfl⟩
  have t2 : But (b :: v.ownBlock.toList) W2 w2 := ⟨hg.os, hg.tape, hg.output, hg.size, fun k hk hs => hg.block k hk (fun e => hs (by simp [← e]))⟩
  exact t2.set (by simp) _
theorem row_cells {W : World} {lo b : Nat} {l : List UInt8} {v : Value} (hc : Cel W b #[v] 24) (ho : Own W lo v l) : ∀ k ∈ b :: v.ownBlock.toList, ∃ o : Obj, W.heap[k]? = some o ∧ o.isCells = true := by
  intro k hk
  rcases List.mem_cons.1 hk with rfl | hk
  · exact ⟨_, hc, rfl⟩
  · rcases ho.2 with ⟨rfl, _⟩ | ⟨g, cap, cur, rfl, _, hg, _⟩
    · simp [Value.ownBlock] at hk
    · simp [Value.ownBlock] at hk
      subst hk
      exact ⟨_, hg, rfl⟩
theorem row_lo {W : World} {lo b : Nat} {l : List UInt8} {v : Value} (ho : Own W lo v l) (hlo : lo ≤ b) : ∀ k ∈ b :: v.ownBlock.toList, lo ≤ k := by
  intro k hk
  rcases List.mem_cons.1 hk with rfl | hk
  · exact hlo
  · exact own_lt ho k (by simpa using hk)
theorem Marks.cells {base : Nat} {S Ds : List Nat} {W W' : World} (h : Marks base Ds W) (hS : ∀ k ∈ S, ∃ o : Obj, W.heap[k]? = some o ∧ o.isCells = true) (hb : But S W W') : Marks base Ds W' := h.but hb (fun D hD hm => by
  obtain ⟨o, ho, hc⟩ := hS D hm
  rw [(h.at_ D hD).2] at ho
  cases ho
  cases hc)

set_option maxRecDepth 100000 in
set_option maxHeartbeats 4000000 in
theorem bytes_in (ps : List Ins) (a : Option Addr) (c : Nat) (w : World) (hp : PV w a ps) (hw : wholeB ps = true) (hT : Tab w) :
    CallsIn Fence.wide 9 Tryz.prog 8 #[.slice a ps.length c] w fun e w' => (∃ v, e = .returned v ∧ Own w' w.heap.size v (bytesL ps)) ∧ Below w.heap.size w w' := by
  have HW := whole_any c hp hT
  rw [hw] at HW
  obtain ⟨h64, hall⟩ := wholeB_iff.1 hw
  obtain ⟨n, hn⟩ : ∃ n, ps.length = n := ⟨_, rfl⟩
  have hbl : Hid (bytesL ps = numL n ++ bytesP ps) := Hid.mk (by unfold bytesL; rw [hn])
  rw [hn] at HW h64 hall ⊢
  have HN := fun W => cnum (w := W) (B := 0) (a := none) (c := 0) (bs := []) (.inl ⟨rfl, rfl⟩) n (by omega) (by simp)
  simp only [List.length_nil, List.nil_append] at HN
  have hwr : IntKind.u64.wrap (n : Int) = (n : Int) := by rw [IntKind.wrap_u64]; omega
  refine callsIn_of_wp_marks Tryz.func8 rfl trivial ?_ rfl
  simp only [Tryz.ntmps8, List.size_toArray, List.length_cons, List.length_nil, Nat.reduceAdd, Nat.reduceSub, Array.replicate_succ, Array.replicate_zero, List.push_toArray, List.append_toArray, List.nil_append, List.cons_append]
  gi_wp2_with (first
    | (refine ⟨trivial, ?_⟩; gi_at_call 7; refine (callsIn_wide.2 HW).mono ?_; rintro e w1 ⟨rfl, hb1⟩)
    | (refine ⟨trivial, ?_⟩; gi_at_call 17; refine (callsIn_wide.2 (HN _)).mono ?_; rintro e w2 ⟨v2, rfl, ho2, hb2⟩; obtain ⟨a2, c2, ev2, _⟩ := own_sl ho2 rfl; subst ev2))
  have hX0 : Bx (w2.alloc (.cells #[.slice a2 (numL n).length c2] 24)) w.heap.size w2.heap.size (numL n) := ⟨⟨_, Cel.new w2 _ 24, (ho2.lower hb1.size).alloc _⟩, Nat.le_trans hb1.size hb2.size⟩
  have hbW : Below w.heap.size w (w2.alloc (.cells #[.slice a2 (numL n).length c2] 24)) := (hb1.trans (hb2.mono hb1.size)).alloc (Nat.le_trans hb1.size hb2.size) _
  generalize (w2.alloc (.cells #[.slice a2 (numL n).length c2] 24)) = W0 at hX0 hbW ⊢
  generalize w2.heap.size = b at hX0 ⊢
  generalize Value.slice a2 (numL n).length c2 = z13 at *
  clear HW HN hb1 hb2 ho2 hw hwr
  have Hn : Hid (ps.length = n) := Hid.mk hn
  clear hn
  refine wpIn_loop (fun A W => ∃ (i : Nat) (Ds : List Nat) (u5 u6 u17 u18 u19 u20 u21 u22 u23 u24 u25 u26 u27 u28 u29 u30 u31 u32 u33 : Value), i ≤ n ∧ Marks w.heap.size Ds W ∧ Bx W w.heap.size b (numL n ++ bytesP (ps.take i)) ∧ Below w.heap.size w W ∧
      A = { tmps := #[.slice a n c, undef, .slice none 0 0, .pointer (some ⟨b, 0, none⟩), undef, u5, u6, .slice a n c, .bool true, .bool false, .slice a n c, .int .i64 (n : Int), .int .u64 (n : Int), z13, .slice a n c, .int .i64 (n : Int), .int .i64 (i : Int), u17, u18, u19, u20, u21, u22, u23, u24, u25, u26, u27, u28, u29, u30, u31, u32, u33, undef], defers := Ds.map mkD }) (fun A _ => n - (intOf (A.tmps.getD 16 undef)).toNat) ?start ?round
  case start => exact ⟨0, [], undef, undef, undef, undef, undef, undef, undef, undef, undef, undef, undef, undef, undef, undef, undef, undef, undef, undef, undef, Nat.zero_le _, Marks.nil _ _, by simpa [bytesP] using hX0, hbW, rfl⟩
  case round =>
    clear hX0 hbW W0
    rintro A W ⟨i, Ds, u5, u6, u17, u18, u19, u20, u21, u22, u23, u24, u25, u26, u27, u28, u29, u30, u31, u32, u33, hi, hM, hX, hb, rfl⟩
    by_cases hlt : i < n
    · have hi' : i < ps.length := by rw [Hn.out]; exact hlt
      obtain ⟨bq, o, rfl, c0, c1, c2, c3⟩ := hp.below hb i hi'
      have hsn := Hid.mk (bytesP_snoc (ins_get hi'))
      have hg := hall i hlt
      have hlen : (numL n ++ bytesP (ps.take i)).length ≤ 11 + 34 * 64 := by
        have h1 := numL_len n
        have h2 := bytesP_len (ps.take i)
        rw [List.length_take] at h2
        rw [List.length_append]
        omega
      generalize hx : ins ps i = x at *
      clear hx hall hp hi'
      have hl2 : (i : Int) < (n : Int) := by omega
      obtain ⟨v, hcv, hov⟩ := hX.at_
      have hlo := hX.lo
      have hfin := Hid.mk (show numL n ++ bytesP (ps.take (i + 1)) = numL n ++ bytesP (ps.take i) ++ [UInt8.ofNat x.1.toNat] ++ intsF (usedL x) by rw [hsn.out]; simp [bytesI])
      clear hsn
      generalize numL n ++ bytesP (ps.take i) = T at *
      obtain ⟨va, vc, ev, _⟩ := own_sl hov rfl
      have hop : opB x.1 = true := by unfold goodB at hg; simp only [Bool.and_eq_true] at hg; exact hg.1
      obtain ⟨k0, hk0, hk27⟩ := opB_nat hop
      have hwr : IntKind.u8.wrap x.1 = ((UInt8.ofNat k0).toNat : Int) := by
        rw [hk0, u8_small (by omega), IntKind.wrap_u8]
        omega
      have hbk := Hid.mk (show UInt8.ofNat x.1.toNat = UInt8.ofNat k0 by rw [hk0]; rfl)
      clear hk0 hk27 hop
      generalize UInt8.ofNat k0 = ob at *
      -- the instruction's own cells
      have hb3 : But [] W (W.alloc (.cells #[.int .i64 x.1, .int .i64 x.2.1, .int .i64 x.2.2.1, .int .i64 x.2.2.2] 37)) := (But.refl [] W).alloc _
      have d0 := (hcv.but hb3 (by simp)).cell (j := 0) (v := v) rfl
      have e3 : (W.alloc (.cells #[.int .i64 x.1, .int .i64 x.2.1, .int .i64 x.2.2.1, .int .i64 x.2.2.2] 37)).cell? ⟨W.heap.size, 0, none⟩ = some (.int .i64 x.1) := by simp [go_sem]
      have i3 : Cel (W.alloc (.cells #[.int .i64 x.1, .int .i64 x.2.1, .int .i64 x.2.2.1, .int .i64 x.2.2.2] 37)) W.heap.size (insC x) 37 := World.alloc_heap_new W _
      have ho3 := hov.but hb3 (by simp)
      have hby : Byts ((W.alloc (.cells #[.int .i64 x.1, .int .i64 x.2.1, .int .i64 x.2.2.1, .int .i64 x.2.2.2] 37)).alloc (.cells #[.int .u8 (ob.toNat : Int)] 5)) (W.heap.size + 1 + 1) (some ⟨W.heap.size + 1, 0, none⟩) 1 [ob] := by
        have := byts_one (W.alloc (.cells #[.int .i64 x.1, .int .i64 x.2.1, .int .i64 x.2.2.1, .int .i64 x.2.2.2] 37)) ob rfl
        rw [World.size_alloc] at this
        exact this
      refine wpIn_wide.2 ?_
      subst ev
      go_wp2_with (first
        | (at_builtin; refine wpList_bat rfl _ _ rfl w.heap.size _ T rfl (ho3.alloc _) (W.heap.size + 1 + 1) _ 1 1 [ob] rfl rfl hby (by simp; omega) (by have := hb.size; simp; omega) ?_; intro v' w4 ho4 hg4 hw4; obtain ⟨r1, r2, r3, r4⟩ := push_box hcv hov hlo (hb3.alloc _) ho4 hg4; obtain ⟨va', vc', ev', _⟩ := own_sl (n := T.length + 1) ho4 (by simp); subst ev')
        | (go_at_call 18; (with_reducible refine (used_any _ _).mono ?_); rintro e w5 ⟨rfl, rfl⟩))
      have hS := row_cells hcv hov
      have hSl : ∀ k ∈ b :: (Value.slice va T.length vc).ownBlock.toList, k < W.heap.size := fun k hk => by
        obtain ⟨o', ho', _⟩ := hS k hk
        exact (Array.getElem?_eq_some_iff.1 ho').1
      have hbA := (hb3.alloc (.cells #[.int .u8 (ob.toNat : Int)] 5))
      have hbW4 := hbA.wide.trans r2
      have i4 := (i3.put (Below.heap_alloc _ (.cells #[.int .u8 (ob.toNat : Int)] 5) _ (by simp))).but r2 (fun hm => by have := hSl _ hm; omega)
      have hM4 := hM.cells hS hbW4
      have bel4 : Below w.heap.size w (w4.setCell ⟨b, 0, none⟩ (.slice va' (T.length + 1) vc')) := hb.trans (hbW4.below hb.size (row_lo hov hlo))
      clear r2 r3 r4 hby hbW4 hbA i3 e3 d0 hb3 hcv hov ho3 ho4 hg4 hw4 hS hSl c0 c1 c2 c3 hM hX hb hlo
      have hsz4 : (w4.setCell ⟨b, 0, none⟩ (.slice va' (T.length + 1) vc')).heap.size = w4.heap.size := by simp [World.setCell]
      generalize (w4.setCell ⟨b, 0, none⟩ (.slice va' (T.length + 1) vc')) = W4 at r1 i4 hM4 bel4 hsz4 ⊢
      rw [hbk.out] at hfin
      have b6 : But [] W4 (W4.alloc (.cells #[.pointer (some ⟨W.heap.size, 0, none⟩)] 49)) := (But.refl [] W4).alloc _
      have hX6 := r1.below b6.to_below
      have i6 := i4.but b6 (by simp)
      have cX6 : (W4.alloc (.cells #[.pointer (some ⟨W.heap.size, 0, none⟩)] 49)).cell? ⟨w4.heap.size, 0, none⟩ = some (.pointer (some ⟨W.heap.size, 0, none⟩)) := by rw [← hsz4]; simp [go_sem]
      have bel6 : Below w.heap.size w (W4.alloc (.cells #[.pointer (some ⟨W.heap.size, 0, none⟩)] 49)) := bel4.alloc bel4.size _
      have hM6 := hM4.but b6 (by simp)
      have hDs : ∀ D ∈ Ds, D < (W4.alloc (.cells #[.pointer (some ⟨W.heap.size, 0, none⟩)] 49)).heap.size := fun D hD => hM6.lt hD
      have hne6 : W.heap.size ≠ b := fun e => by
        obtain ⟨vv, q1, _⟩ := r1.at_
        rw [← e] at q1
        have := (show W4.heap[W.heap.size]? = _ from i4).symm.trans q1
        cases this
      clear b6 i4 r1 hM4 bel4 hsz4
      generalize (W4.alloc (.cells #[.pointer (some ⟨W.heap.size, 0, none⟩)] 49)) = W6 at hX6 i6 cX6 bel6 hM6 hDs ⊢
      generalize w4.heap.size = X at cX6 ⊢
      generalize W.heap.size = B at i6 cX6 hne6 ⊢
      have cB6 : W6.cell? ⟨B, 0, none⟩ = some (.int .i64 x.1) := i6.cell rfl
      have hlT : (T ++ [ob]).length ≤ 12 + 34 * 64 := by simp; omega
      refine (wpIn_wide (n := 9)).1 ?_
      refine wp_range (stab_const [b]) (gf := 41) (lb := #[.pointer (some ⟨X, 0, none⟩)]) rfl (enters_of Tryz.func41 (by kernel_rfl) rfl)
        (used_seq (stab_const [b]) X B x.1 W6 (hT.on bel6) cX6 cB6) (Below.refl _ _) (fun _ => rfl)
        (fun j A => Bx A w.heap.size b (T ++ [ob] ++ intsJ x j) ∧ Cel A B (insC x) 37 ∧ Below w.heap.size w A ∧ Marks w.heap.size Ds A)
        (fun _ _ => False) ?hI (fun c' u A A' row h _ _ => h) (fun j A h => h.1.inn) ⟨by rw [intsJ_zero, List.append_nil]; exact hX6, i6, bel6, hM6⟩ ?a1 ?assign ?body ?done ?stop
      case hI =>
        rintro j A A' row ⟨h1, h2, h3, h4⟩ hg' hr
        have hr2 := fun r e => (hr r e).2
        exact ⟨h1.own_ hg' hr2, h2.own hg' hr2, below_own h3 hg' (fun r e => by have := (hr r e).1; have := bel6.size; omega) h3.size, h4.own hg' (fun r e => (hr r e).1) hDs⟩
      case assign =>
        intro l x W K hK
        gi_wp2
        exact hK
      case body =>
        rintro l2 j k A hj ⟨h1, h2, h3, h4⟩
        have hkl := usQ_mem (List.mem_of_getElem? hj)
        have hns := intsJ_succ hj
        obtain ⟨q1, q2⟩ := good_small h64 hg hkl.1
        have hln : (T ++ [ob] ++ intsJ x j).length ≤ 45 + 34 * 64 := by
          rw [List.length_append]
          have := intsJ_len x j
          omega
        have hin := h1.inn
        obtain ⟨v, hcv, hov⟩ := h1.at_
        obtain ⟨m, hm⟩ : ∃ m, (T ++ [ob] ++ intsJ x j).length = m := ⟨_, rfl⟩
        obtain ⟨va, vc, ev, hby⟩ := own_sl hov hm
        subst ev
        have cv := h2.cell (insC_num x hkl.1)
        have cb := hcv.cell (j := 0) (v := .slice va m vc) rfl
        have H1 := cint (w := A.drew) (by exact hby) (nk x k) (by omega) (by omega)
        rw [hm] at H1
        clear hm
        have hbd : Below A.heap.size A A.drew := below_drew A
        have hszd : A.drew.heap.size = A.heap.size := rfl
        replace cv : A.drew.cell? ⟨B, k + 1, none⟩ = some (.int .i64 (nk x k)) := cv
        replace cb : A.drew.cell? ⟨b, 0, none⟩ = some (.slice va m vc) := cb
        have hput : ∀ (A1 : World) (v' : Value), Own A1 A.drew.heap.size v' (T ++ [ob] ++ intsJ x j ++ numL (zigN (nk x k))) → Below A.drew.heap.size A.drew A1 → (Kp (fun _ => [b]) W6.heap.size A (A1.setCell ⟨b, 0, none⟩ v') ∧ Bx (A1.setCell ⟨b, 0, none⟩ v') w.heap.size b (T ++ [ob] ++ intsJ x (j + 1)) ∧ Cel (A1.setCell ⟨b, 0, none⟩ v') B (insC x) 37 ∧ Below w.heap.size w (A1.setCell ⟨b, 0, none⟩ v') ∧ Marks w.heap.size Ds (A1.setCell ⟨b, 0, none⟩ v')) ∧ A1.frozen? ⟨b, 0, none⟩ = false ∧ A1.cell? ⟨b, 0, none⟩ = some (.slice va m vc) := by
          intro A1 v' ho hb1
          have hb2 := hbd.trans hb1
          obtain ⟨p1, p2⟩ := h1.put hb2 ((show Own A1 A.heap.size v' _ from ho).lower h3.size)
          have p3 := but_box (b := b) hb2 v'
          rw [hns, ← List.append_assoc]
          exact ⟨⟨kp_box p3 hin, p1, (h2.below hb2).other hne6 v', h3.trans (p3.below h3.size (by simpa using h1.lo)), h4.keep (kp_box (base := w.heap.size) p3 hin).from_⟩, p2, (hcv.below hb2).cell (j := 0) rfl⟩
        unfold encU
        have hmx : Tryz.prog.follows .mixedOrders = true := by kernel_rfl
        gi_wp2_with fail
        simp only [List.zip_toArray, List.zip_cons_cons, List.zip_nil_left, List.size_toArray, List.length_cons, List.length_nil, Nat.reduceAdd, Nat.min_self]
        refine wpIn_region_any hmx (anyRound (by kernel_rfl) ?_)
        change wpAnyIn _ _ _ _ _ _ _ _ _ (World.drew _)
        clear hbd hszd
        generalize A.drew = A0 at H1 cv cb hput ⊢
        refine wpAnyIn_take (i := 1) (v := .pointer (some ⟨B, k + 1, none⟩)) rfl rfl (by kernel_rfl) (by kernel_rfl) (by kernel_rfl) (fun _ _ _ h => h) ⟨Or.inl ⟨rfl, fun w => by go_simp⟩, fun _ => rfl⟩ ?_
        refine wpAnyIn_take (i := 2) (v := .pointer (some ⟨B, k + 1, none⟩)) rfl rfl (by kernel_rfl) (by kernel_rfl) (by kernel_rfl) (fun _ _ _ h => h) ⟨Or.inl ⟨rfl, fun w => by go_simp⟩, fun _ => rfl⟩ ?_
        refine wpAnyIn_ready (rs := [0, 3]) (by kernel_rfl) (by simp) ?_
        refine AllReadyIn.cons rfl (fun K hK => ?_) (AllReadyIn.cons rfl (fun K hK => ?_) AllReadyIn.nil)
        · go_simp
          refine hK _ _ ?_
          clear hK K
          refine wpAnyIn_drop 3 rfl (by kernel_rfl) ?_
          show wpListIn _ _ _ _ _ [_, _, _] _ _
          gi_wp2_with (refine ⟨trivial, ?_⟩; gi_at_call 19; refine (callsIn_wide.2 H1).mono ?_; rintro e A1 ⟨v', rfl, ho1, hb1⟩; obtain ⟨p1, p2, p3⟩ := hput A1 v' ho1 hb1; obtain ⟨m1, hm1⟩ : ∃ m, (T ++ [ob] ++ intsJ x j ++ numL (zigN (nk x k))).length = m := ⟨_, rfl⟩; obtain ⟨va1, vc1, ev1, _⟩ := own_sl ho1 hm1; subst ev1)
          exact p1
        · go_simp
          refine hK _ _ ?_
          clear hK K
          refine wpAnyIn_ready (rs := [0]) (by kernel_rfl) (by simp) ?_
          refine AllReadyIn.cons rfl (fun K hK => ?_) AllReadyIn.nil
          go_simp
          refine hK _ _ ?_
          clear hK K
          refine wpAnyIn_drop 4 rfl (by kernel_rfl) ?_
          show wpListIn _ _ _ _ _ [_, _] _ _
          gi_wp2_with (refine ⟨trivial, ?_⟩; gi_at_call 19; refine (callsIn_wide.2 H1).mono ?_; rintro e A1 ⟨v', rfl, ho1, hb1⟩; obtain ⟨p1, p2, p3⟩ := hput A1 v' ho1 hb1; obtain ⟨m1, hm1⟩ : ∃ m, (T ++ [ob] ++ intsJ x j ++ numL (zigN (nk x k))).length = m := ⟨_, rfl⟩; obtain ⟨va1, vc1, ev1, _⟩ := own_sl ho1 hm1; subst ev1)
          exact p1
      case done =>
        rintro D A hD ⟨h1, h2, h3, h4⟩ hK
        rw [intsJ_all, ← hfin.out] at h1
        have hnx : IntKind.i64.wrap ((i : Int) + 1) = ((i + 1 : Nat) : Int) := by rw [IntKind.wrap_i64] <;> omega
        have hnx2 : wrap64 ((i : Int) + 1) = ((i + 1 : Nat) : Int) := by unfold wrap64; omega
        dsimp only
        go_wp2
        have hM' : Marks w.heap.size (D :: Ds) A := h4.cons (fun y hy => by have := hDs y hy; omega) (by have := bel6.size; omega) hK
        refine ⟨⟨i + 1, D :: Ds, _, _, _, _, _, _, _, _, _, _, _, _, _, _, _, _, _, _, _, by omega, hM', h1, h3, rfl⟩, ?_⟩
        simp [intOf]
        omega
      case stop =>
        rintro D c' A _ h _
        exact h.elim
    · obtain rfl : i = n := by omega
      have eT : numL i ++ bytesP (ps.take i) = bytesL ps := by rw [List.take_of_length_le (by rw [Hn.out]; exact Nat.le_refl _), hbl.out]
      rw [eT] at hX
      obtain ⟨v, hcv, hov⟩ := hX.at_
      have cb := hcv.cell (j := 0) (v := v) rfl
      obtain ⟨va, vc, ev, hby⟩ := own_sl hov rfl
      subst ev
      gi_wp2_with fail
      refine post_marks hM (fun W3 hb3 => ⟨_, results_tmp rfl _ _ _, ⟨Value.slice va (bytesL ps).length vc, rfl, own_fz hov (fun k ek => hb3.block k (World.ownsRow.lt hov k ek).2 (fun hm => ?_))⟩, ?_⟩)
      · obtain ⟨o', ho', hc'⟩ := row_cells hcv hov k (by rw [ek]; simp)
        have := (hM.at_ k hm).2
        rw [ho'] at this
        cases this
        cases hc'
      · exact hb.trans (hb3.below hb.size (fun D hD => (hM.at_ D hD).1))

/-- Bytes, of any program. -/
theorem bytes_any {ps : List Ins} {a : Option Addr} (c : Nat) {w : World} (hp : PV w a ps) (hT : Tab w) :
    Calls Tryz.prog 8 #[.slice a ps.length c] w fun e w' => (∃ v, e = .returned v ∧ Own w' w.heap.size v (bytesA ps)) ∧ Below w.heap.size w w' := by
  cases hw : wholeB ps
  · have HW := whole_any c hp hT
    rw [hw] at HW
    have e : bytesA ps = [] := by unfold bytesA; rw [hw]; rfl
    rw [e]
    go_enter Tryz.func8, Tryz.ntmps8
    go_wp2_with (go_at_call 7; (with_reducible refine HW.mono ?_); rintro e w1 ⟨rfl, hb1⟩)
    go_ret
    exact ⟨⟨_, rfl, World.ownsRow_nil _ _ _ _⟩, hb1⟩
  · have e : bytesA ps = bytesL ps := by unfold bytesA; rw [hw]; rfl
    rw [e]
    exact callsIn_wide.1 (bytes_in ps a c w hp hw hT)

end Go.Proofs.YtbcdjpafdmgbmaaGreatDoor
