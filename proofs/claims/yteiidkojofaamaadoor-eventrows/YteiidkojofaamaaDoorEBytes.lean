/- Bytes: the program's. -/
import Derived.Test.YteiidkojofaamaaDoorEHandA
import Derived.Test.YteiidkojofaamaaDoorEHandB
import Derived.Test.YteiidkojofaamaaDoorEHandC
import Derived.Test.YteiidkojofaamaaDoorERegs
import Derived.Test.YteiidkojofaamaaDoorKGood
namespace Go.Proofs.YteiidkojofaamaaDoor
open Go Go.RowKit

theorem hand_any {lo : Nat} {w : World} {E X : Nat} {e : Ev} {l : List UInt8} (h : PS lo w E X e l) (hg : goodE e = true) (hlo : lo ≤ w.heap.size) (hbs : l.length ≤ 600000) :
    Calls Tryd.prog 34 #[.pointer (some ⟨E, 0, none⟩), .func (.func 35) #[] #[.pointer (some ⟨X, 0, none⟩)]] w fun r w' => r = .returned (.tuple #[]) ∧ PS lo w' E X e (l ++ handL e) ∧ But [X] w w' := by
  have hk : kindB e.kd = true := by
    cases hk : kindB e.kd with
    | true => rfl
    | false => rw [good_kind hk] at hg; cases hg
  obtain ⟨k, he, h1, h7⟩ := kind_nat hk
  rw [row_good h1 h7 he] at hg
  clear hk
  rcases (show k = 1 ∨ k = 2 ∨ k = 3 ∨ k = 4 ∨ k = 5 ∨ k = 6 ∨ k = 7 by omega) with rfl | rfl | rfl | rfl | rfl | rfl | rfl
  · simp [rowB, inB, aLo, aHi, tLo, tHi, vHi, cxK] at hg
    exact hand_put1 h he ⟨by omega, by omega⟩ hlo hbs
  · simp [rowB, inB, aLo, aHi, tLo, tHi, vHi, cxK, ctxB] at hg
    exact hand_put2 h he ⟨by omega, by omega⟩ ⟨by omega, by omega⟩ ⟨by omega, by omega⟩ ⟨by omega, by omega⟩ ⟨by omega, by omega⟩ hlo hbs
  · simp [rowB, inB, aLo, aHi, tLo, tHi, vHi, cxK] at hg
    exact hand_put3 h he ⟨by omega, by omega⟩ ⟨by omega, by omega⟩ hlo hbs
  · simp [rowB, inB, aLo, aHi, tLo, tHi, vHi, cxK] at hg
    exact hand_put4 h he ⟨by omega, by omega⟩ ⟨by omega, by omega⟩ ⟨by omega, by omega⟩ hlo hbs
  · simp [rowB, inB, aLo, aHi, tLo, tHi, vHi, cxK] at hg
    exact hand_put5 h he ⟨by omega, by omega⟩ ⟨by omega, by omega⟩ hlo hbs
  · simp [rowB, inB, aLo, aHi, tLo, tHi, vHi, cxK] at hg
    exact hand_put6 h he ⟨by omega, by omega⟩ hlo hbs
  · simp [rowB, inB, aLo, aHi, tLo, tHi, vHi, cxK] at hg
    exact hand_put7 h he ⟨by omega, by omega⟩ hlo hbs

def rgL (e : Ev) : List Int := [e.rs 0, e.rs 1, e.rs 2, e.rs 3, e.rs 4, e.rs 5, e.rs 6, e.rs 7]
theorem rg_get (e : Ev) {j : Nat} (h : j < 8) : (rgL e)[j]? = some (e.rs j) := by
  rcases (show j = 0 ∨ j = 1 ∨ j = 2 ∨ j = 3 ∨ j = 4 ∨ j = 5 ∨ j = 6 ∨ j = 7 by omega) with rfl | rfl | rfl | rfl | rfl | rfl | rfl | rfl <;> rfl
theorem evA_reg (e : Ev) {j : Nat} (h : j < 8) : (evA e)[6 + j]? = some (.int .i64 (e.rs j)) := by
  rcases (show j = 0 ∨ j = 1 ∨ j = 2 ∨ j = 3 ∨ j = 4 ∨ j = 5 ∨ j = 6 ∨ j = 7 by omega) with rfl | rfl | rfl | rfl | rfl | rfl | rfl | rfl <;> rfl
theorem RgE.reg {e : Ev} (h : RgE e) {j : Nat} (hj : j < 8) : -9223372036854775808 ≤ e.rs j ∧ e.rs j ≤ 9223372036854775807 := by
  refine h _ ?_
  unfold evI
  rcases (show j = 0 ∨ j = 1 ∨ j = 2 ∨ j = 3 ∨ j = 4 ∨ j = 5 ∨ j = 6 ∨ j = 7 by omega) with rfl | rfl | rfl | rfl | rfl | rfl | rfl | rfl <;> simp
theorem ints_step (e : Ev) {j : Nat} (h : j < 8) : intsF ((rgL e).take (j + 1)) = intsF ((rgL e).take j) ++ numL (zigN (e.rs j)) := by
  obtain ⟨hj, he⟩ := List.getElem?_eq_some_iff.1 (rg_get e h)
  unfold intsF
  rw [List.take_succ_eq_append_getElem hj, List.flatMap_append, he]
  simp
theorem handL_len (e : Ev) : (handL e).length ≤ 66 := by
  have h0 := numI_len e.ac
  have h1 : (thL e).length ≤ 11 := by
    unfold thL
    split
    · exact numI_len _
    · simp
  have h2 : (vaL e).length ≤ 11 := by
    unfold vaL
    split
    · exact numI_len _
    · simp
  have h3 : (headL e).length ≤ 33 := by
    unfold headL
    have a := numI_len e.pg
    have b := numI_len e.pc
    have c := numI_len e.dp
    split <;> simp
    omega
  unfold handL
  simp only [List.length_append]
  omega
theorem byt_is (e : Ev) : byt e = [UInt8.ofNat e.kd.toNat] ++ handL e ++ (if e.kd = 2 then regL e else []) := by
  unfold byt handL cxL headL
  by_cases h : e.kd = 2 <;> simp [h]
theorem byt_len (e : Ev) : (byt e).length ≤ 155 := by
  have h1 := handL_len e
  have h2 : (regL e).length ≤ 88 := intsF_len _
  rw [byt_is, List.length_append, List.length_append]
  split <;> simp <;> omega
theorem bytes_bad (e : Ev) (w : World) (hT : Tab w) (hg : goodE e = false) : Calls Tryd.prog 12 #[.agg (evA e)] w fun r w' => r = .returned (.slice none 0 0) ∧ Below w.heap.size w w' := by
  have B0 : Below w.heap.size w (w.alloc (.cells (evA e) 26)) := (Below.refl _ w).alloc (Nat.le_refl _) _
  have HG := good_any e (w.alloc (.cells (evA e) 26)) (hT.on B0)
  rw [hg] at HG
  unfold evA at HG B0 ⊢
  clear hg
  go_enter Tryd.func12, Tryd.ntmps12
  go_wp2_with (go_at_call 8; (with_reducible refine HG.mono ?_); rintro r w1 ⟨rfl, hb1⟩)
  go_ret
  exact ⟨rfl, B0.trans (hb1.mono B0.size)⟩
set_option maxHeartbeats 2000000 in
set_option maxRecDepth 100000 in
theorem bytes_any (e : Ev) (w : World) (hT : Tab w) (hg : goodE e = true) (hR : RgE e) : Calls Tryd.prog 12 #[.agg (evA e)] w fun r w' => ∃ v, r = .returned v ∧ Own w' w.heap.size v (byt e) ∧ Below w.heap.size w w' := by
  have B0 : Below w.heap.size w (w.alloc (.cells (evA e) 26)) := (Below.refl _ w).alloc (Nat.le_refl _) _
  have HG := good_any e (w.alloc (.cells (evA e) 26)) (hT.on B0)
  rw [hg] at HG
  have HGG : Hid (goodE e = true) := hg
  have hk0 : kindB e.kd = true := by
    cases hk : kindB e.kd with
    | true => rfl
    | false => rw [good_kind hk] at hg; cases hg
  obtain ⟨k, he, h1, h7⟩ := kind_nat hk0
  have E0 : Cel (w.alloc (.cells (evA e) 26)) w.heap.size (evA e) 26 := Cel.new w _ 26
  have T0 := hT.on B0
  have hpos := hT.lt
  have HBI : Hid (byt e = [UInt8.ofNat e.kd.toNat] ++ handL e ++ (if e.kd = 2 then regL e else [])) := byt_is e
  have HE : Hid (e.kd = (k : Int)) := he
  have hk1 : (1 : Int) ≤ (k : Int) := by omega
  have hk7 : (k : Int) ≤ 7 := by omega
  have HLE := handL_len e
  clear hg hk0 he h1 h7
  have HG' := Hid.mk HG
  unfold evA at HG ⊢
  go_enter Tryd.func12, Tryd.ntmps12
  go_upto_region 3 with (go_at_call 8; (with_reducible refine HG.mono ?_); rintro r w1 ⟨rfl, hb1⟩)
  have E1 := E0.below hb1
  have T1 := T0.on hb1
  have B1 : Below w.heap.size w w1 := B0.trans (hb1.mono B0.size)
  have c0 : w1.cell? ⟨w.heap.size, 0, none⟩ = some (.int .i64 (k : Int)) := by rw [← HE.out]; exact E1.cell (j := 0) rfl
  have hu8 : ((UInt8.ofNat k).toNat : Int) = (k : Int) := by rw [UInt8.toNat_ofNat', Nat.mod_eq_of_lt (by omega)]
  have O1 : Own (w1.alloc (.cells #[.int .u8 (k : Int)] 5)) w.heap.size (.slice (some ⟨w1.heap.size, 0, none⟩) 1 1) [UInt8.ofNat k] := by
    have := World.ownsRow_lit (base := w.heap.size) (e := 5) (size := 1) w1 #[.int .u8 (k : Int)] 1 B1.size (by unfold maxLen; omega) rfl
    unfold Own bc
    simp only [List.map_cons, List.map_nil, hu8]
    exact this
  have B2 : Below w1.heap.size w1 ((w1.alloc (.cells #[.int .u8 (k : Int)] 5)).alloc (.cells #[.slice (some ⟨w1.heap.size, 0, none⟩) 1 1] 29)) := ((Below.refl _ w1).alloc (Nat.le_refl _) _).alloc (by simp) _
  have P2 : PS w.heap.size ((w1.alloc (.cells #[.int .u8 (k : Int)] 5)).alloc (.cells #[.slice (some ⟨w1.heap.size, 0, none⟩) 1 1] 29)) w.heap.size (w1.heap.size + 1) e [UInt8.ofNat k] := by
    have hs := B1.size
    have hc := Cel.new (w1.alloc (.cells #[.int .u8 (k : Int)] 5)) #[.slice (some ⟨w1.heap.size, 0, none⟩) 1 1] 29
    rw [show (w1.alloc (.cells #[.int .u8 (k : Int)] 5)).heap.size = w1.heap.size + 1 by simp] at hc
    exact ⟨E1.below B2, ⟨⟨_, hc, O1.alloc _⟩, by omega⟩, T1.on B2, by omega, by omega⟩
  have H2 := hand_any P2 HGG.out (by have := B1.size; simp; omega) (by simp)
  clear HG HG' E0 T0 B0 hb1 E1 T1 O1 hu8
  go_upto_region 5 with (go_at_call 34; (with_reducible refine H2.mono ?_); rintro r w3 ⟨rfl, P3, b3⟩)
  have B3 : Below w.heap.size w w3 := (B1.trans (B2.mono B1.size)).trans (b3.below (by have h1 := B1.size; have h2 := B2.size; omega) (by simp; have := B1.size; omega))
  have hX : w.heap.size ≤ w1.heap.size + 1 := by have := B1.size; omega
  have RG := regs_any P3.ev P3.tab
  have hkn : UInt8.ofNat e.kd.toNat = UInt8.ofNat k := by rw [HE.out]; simp
  rw [hkn] at HBI
  clear P2 B1 B2 H2 c0 hkn hT b3
  generalize w1.heap.size + 1 = X at *
  have hl : ([UInt8.ofNat k] ++ handL e).length ≤ 100 := by simp; omega
  generalize [UInt8.ofNat k] ++ handL e = l at *
  have HP3 := Hid.mk P3
  by_cases h2 : e.kd = 2
  · have HF : Hid (byt e = l ++ intsF (rgL e)) := by
      have := HBI.out
      rw [if_pos h2] at this
      exact this
    unfold regV at RG
    rw [if_pos h2] at RG
    clear h2 HBI HLE P3
    go_wp2_with (go_at_call 37; (with_reducible refine RG.mono ?_); rintro r w' ⟨rfl, hw⟩; subst w')
    go_loopw [17, 5] (fun v _ wr => ∃ j : Nat, j ≤ 8 ∧ v = .int .i64 j ∧ PS w.heap.size wr w.heap.size X e (l ++ intsF ((rgL e).take j)) ∧ Below w.heap.size w wr) (fun v _ _ => 8 - (intOf v).toNat)
    case atStart => exact ⟨0, by omega, rfl, by simpa [intsF] using HP3.out, B3⟩
    case round =>
      obtain ⟨j, hj, rfl, P, hb⟩ := hrel
      by_cases hlt : j < 8
      · have hlt' : (j : Int) < 8 := by omega
        have hc := P.ev.cell (evA_reg e hlt)
        obtain ⟨v0, hx, ho⟩ := P.bx.at_
        have hxc := hx.cell (j := 0) rfl
        have HS : Hid (l ++ intsF ((rgL e).take j) ++ numL (zigN (e.rs j)) = l ++ intsF ((rgL e).take (j + 1))) := by rw [ints_step e hlt, List.append_assoc]; exact Hid.mk rfl
        have hlen : (l ++ intsF ((rgL e).take j)).length ≤ 800000 := by
          have := intsF_len ((rgL e).take j)
          rw [List.length_take] at this
          rw [List.length_append]
          omega
        obtain ⟨a1, c1, rfl, hy⟩ := ho.byts
        have HN := cint hy (e.rs j) (hR.reg hlt) hlen
        have HPP := Hid.mk P
        obtain ⟨kk, hkk⟩ : ∃ kk, Hid ((l ++ intsF ((rgL e).take j) ++ numL (zigN (e.rs j))).length = kk) := ⟨_, rfl⟩
        generalize (l ++ intsF ((rgL e).take j)).length = m at *
        generalize e.rs j = x at HN hc HS hkk
        clear P hlen hy hx ho
        go_wp2_with (go_at_call 38; (with_reducible refine HN.mono ?_); rintro r w5 ⟨v5, rfl, ho5, hb5⟩; have ho5' := ho5.lower hb.size; have hfz := (HPP.out.bx.put hb5 ho5').2; have hxc5 := cell_on hb5 hxc; obtain ⟨a5, c5, rfl, _⟩ := own_sl ho5 hkk.out)
        go_roundw
        case rel => exact ⟨j + 1, by omega, by simp, by rw [← HS.out]; exact HPP.out.put hb5 ho5', hb.trans ((but_box hb5 _).below hb.size (by simp; omega))⟩
        case measure =>
          simp [intOf]
          omega
      · obtain rfl : j = 8 := by omega
        obtain ⟨v0, hx, ho⟩ := P.bx.at_
        have hxc := hx.cell (j := 0) rfl
        have HO := Hid.mk ho
        clear P hx ho
        go_wp2_with fail
        go_ret
        exact ⟨_, rfl, by rw [HF.out]; exact HO.out, hb⟩
  · have HF : Hid (byt e = l) := by
      have := HBI.out
      rw [if_neg h2, List.append_nil] at this
      exact this
    unfold regV at RG
    rw [if_neg h2] at RG
    obtain ⟨v0, hx, ho⟩ := P3.bx.at_
    have hxc := hx.cell (j := 0) rfl
    have HO := Hid.mk ho
    clear h2 HBI HLE P3 hx ho
    go_wp2_with (go_at_call 37; (with_reducible refine RG.mono ?_); rintro r w' ⟨rfl, hw⟩; subst w')
    go_loopw [17, 5] (fun v _ wr => v = .int .i64 0 ∧ wr = w3) (fun _ _ _ => 0)
    case atStart => exact ⟨rfl, rfl⟩
    case round =>
      obtain ⟨rfl, hw⟩ := hrel
      rw [hw]
      go_wp2_with fail
      go_ret
      exact ⟨_, rfl, by rw [HF.out]; exact HO.out, B3⟩
end Go.Proofs.YteiidkojofaamaaDoor
