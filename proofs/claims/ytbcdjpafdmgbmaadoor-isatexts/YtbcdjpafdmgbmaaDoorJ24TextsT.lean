/- The reference's Number. -/
/- The reference's Words; rows of texts. -/
import Derived.Test.YtbcdjpafdmgbmaaDoorJ23TextsT
import Derived.Test.YtbcdjpafdmgbmaaDoorJ03TextsT
namespace Go.Proofs.YtbcdjpafdmgbmaaDoor
open Go.RowKit

theorem strB_get {M : List UInt8} {i : Nat} {b : UInt8} (h : M[i]? = some b) : ∀ h', (strB M)[i]'h' = b := by
  intro h'
  have h2 := (List.getElem?_eq_some_iff.1 h).2
  have : (strB M)[i]'h' = M.toArray[i]'(by have := h'; rw [strB_size] at this; simpa using this) := rfl
  rw [this]
  simpa using h2
theorem strB_tail {l : List UInt8} {m : Nat} (hl : l.length = m + 1) (w : World) : (Instr.slice 9 (.string (strB l)) (some (.int .i64 1)) none none).run Tryd.prog w = .ok (.string (strB (l.drop 1))) w := by
  have hs : (strB l).size = m + 1 := by rw [strB_size, hl]
  have he : (strB l).extract 1 (m + 1) = strB (l.drop 1) := by
    rw [ext_str, strB_data]
    congr 1
    rw [List.take_of_length_le (by rw [List.length_drop, hl]; omega)]
  go_simp
  intro h
  omega
theorem magF_snoc (acc : Nat) (l : List UInt8) (b : UInt8) : magF acc (l ++ [b]) = 10 * magF acc l + (b.toNat - 48) := by
  unfold magF
  rw [List.foldl_append]
  rfl
theorem magF_take {M : List UInt8} {i : Nat} {b : UInt8} (h : M[i]? = some b) : magF 0 (M.take (i + 1)) = 10 * magF 0 (M.take i) + (b.toNat - 48) := by
  rw [List.take_add_one, h]
  exact magF_snoc 0 _ b

/-- What Number tells of what stands behind a -. -/
def magN (neg : Bool) (M : List UInt8) : Option Int := if magB M then some (if neg then -((magF 0 M : Nat) : Int) else ((magF 0 M : Nat) : Int)) else none
theorem numW_mag (l : List UInt8) : numW l = magN (negB l) (magOf l) := rfl
theorem sub48 {b : UInt8} (h : 48 ≤ b.toNat) : IntKind.u8.wrap ((b.toNat : Int) - 48) = ((b.toNat - 48 : Nat) : Int) := by
  have := b.toNat_lt
  rw [IntKind.wrap_u8]
  omega

set_option maxRecDepth 100000 in
set_option maxHeartbeats 4000000 in
theorem rnumber_any (l : List UInt8) (hl : l.length ≤ 100000) (w : World) :
    Calls Tryd.prog 82 #[.string (strB l)] w fun e w' => e = .returned (.tuple #[.int .i64 ((numW l).getD 0), .bool (numW l).isSome]) ∧ w' = w := by
  rw [numW_mag]
  have hneg : ∀ c t, l = c :: t → negB l = decide (c = 45) := by
    rintro c t rfl
    unfold negB
    rfl
  cases l with
  | nil =>
    have e : magN (negB []) (magOf []) = none := rfl
    rw [e]
    have hs : (strB []).toList = [] := strB_list []
    have hz : (strB []).size = 0 := rfl
    have hst : strB [] = ⟨#[]⟩ := rfl
    rw [hst]
    clear hst hs hz hneg
    go_enter Tryd.func82, Tryd.ntmps82
    go_wp2_with fail
    go_ret2
    exact ⟨rfl, rfl⟩
  | cons c t =>
    have hn := hneg c t rfl
    have h0 := strB_get (M := c :: t) (i := 0) rfl
    have hz0 : (0 : Int) < ((strB (c :: t)).size : Int) := by rw [strB_size]; simp
    have hz1 : 0 < (strB (c :: t)).size := by rw [strB_size]; simp
    have hne : (strB (c :: t)).toList.isEmpty = false := by
      rw [strB_list]
      rfl
    have hne2 : ¬ (strB (c :: t)).toList = [] := by
      rw [strB_list]
      simp
    have htl := strB_tail (l := c :: t) (m := t.length) rfl
    simp only [List.drop_succ_cons, List.drop_zero] at htl
    clear hneg
    go_enter Tryd.func82, Tryd.ntmps82
    by_cases hc : c = 45
    · skip
      have e0 : negB (c :: t) = true := by rw [hn]; simp [hc]
      have e1 : magOf (c :: t) = t := by unfold magOf; rw [e0]; rfl
      have hc2 : ((c.toNat : Nat) : Int) = 45 := by rw [hc]; rfl
      obtain ⟨R, hR⟩ : ∃ R, magN (negB (c :: t)) (magOf (c :: t)) = R := ⟨_, rfl⟩
      rw [hR]
      rw [e0, e1] at hR
      have HM : Hid (∃ M, M = t ∧ magN true M = R) := Hid.mk ⟨_, rfl, hR⟩
      have hsz : (strB t).size ≤ 100000 := by rw [strB_size]; simp only [List.length_cons] at hl ⊢; omega
      clear hR e0 e1 hn hc hl
      by_cases h1 : ((strB t).size : Int) < 1
      · have hr : R = none := by
          obtain ⟨M, hM, hr⟩ := HM.out
          rw [← hr]
          rw [strB_size, ← hM] at h1
          unfold magN magB
          rw [if_neg]
          simp
          omega
        subst hr
        go_wp2_with fail
        go_ret2
        exact ⟨rfl, rfl⟩
      · by_cases h14 : (14 : Int) < ((strB t).size : Int)
        · have hr : R = none := by
            obtain ⟨M, hM, hr⟩ := HM.out
            rw [← hr]
            rw [strB_size, ← hM] at h14
            unfold magN magB
            rw [if_neg]
            simp
            omega
          subst hr
          go_wp2_with fail
          go_ret2
          exact ⟨rfl, rfl⟩
        · have hX14 : t.length ≤ 14 := by rw [strB_size] at h14; omega
          have hX1 : 1 ≤ t.length := by rw [strB_size] at h1; omega
          have Hsz := Hid.mk (strB_size t)
          go_wp2_with fail
          go_loopw [6, 5, 25, 26, 27, 28, 29, 30, 31, 32, 33, 34, 35, 36, 37, 38, 39, 40, 41, 42, 43, 44, 45, 46, 47, 48] (fun p q _ _ _ _ _ _ _ _ _ _ _ _ _ _ _ _ _ _ _ _ _ _ _ _ wr => ∃ i : Nat, i ≤ (strB t).size ∧ p = .int .i64 i ∧ q = .int .i64 ((magF 0 (t.take i) : Nat) : Int) ∧ Hid ((t.take i).all digB = true) ∧ wr = w) (fun p _ _ _ _ _ _ _ _ _ _ _ _ _ _ _ _ _ _ _ _ _ _ _ _ _ _ => (strB t).size - (intOf p).toNat)
          case atStart => exact ⟨0, by omega, rfl, rfl, Hid.mk (by simp), rfl⟩
          case round =>
            obtain ⟨i, hi, rfl, rfl, hall, rfl⟩ := hrel
            have hnb : magF 0 (t.take i) < 100000000000000 := by
              have h2 := magF_lt (t.take i) 0 0 (by omega) hall.out
              have h3 : (t.take i).length ≤ 14 := by rw [List.length_take]; omega
              have h5 : (10 : Nat) ^ (0 + (t.take i).length) ≤ 10 ^ 14 := Nat.pow_le_pow_right (by omega) (by omega)
              have : (10 : Nat) ^ 14 = 100000000000000 := by decide
              omega
            by_cases hlt : i < (strB t).size
            · obtain ⟨b, hb⟩ : ∃ b, t[i]? = some b := ⟨_, List.getElem?_eq_getElem (by rw [← Hsz.out]; exact hlt)⟩
              have hix := strB_get hb
              have hl2 : (i : Int) < ((strB t).size : Int) := by omega
              have hl0 : (0 : Int) ≤ (i : Int) := by omega
              cases hd : digB b with
              | true =>
                have hd2 := dig_iff.1 hd
                have hall2 := Hid.mk (all_take hall.out hb hd)
                have hnx := Hid.mk (magF_take hb)
                have h48 : ¬ ((b.toNat : Nat) : Int) < 48 := by omega
                have h57 : ¬ (57 : Int) < ((b.toNat : Nat) : Int) := by omega
                have hs48 := sub48 hd2.1
                have hd9 : ((b.toNat - 48 : Nat) : Int) ≤ 9 := by omega
                clear hd hall hb
                generalize magF 0 (t.take i) = N at *
                go_wp2_with fail
                go_roundw
                case rel => exact ⟨i + 1, by omega, by simp, by rw [hnx.out]; simp, hall2, trivial⟩
                case measure =>
                  simp [intOf]
                  omega
              | false =>
                have hr : R = none := by
                  obtain ⟨M, hM, hr⟩ := HM.out
                  rw [← hr, hM]
                  unfold magN
                  rw [magB_bad (all_bad hb hd)]
                  rfl
                subst hr
                have hd2 : ¬ (48 ≤ b.toNat ∧ b.toNat ≤ 57) := fun h => by rw [dig_iff.2 h] at hd; cases hd
                by_cases h48 : ((b.toNat : Nat) : Int) < 48
                · clear hd hd2 hall hb
                  go_wp2_with fail
                  go_ret2
                  exact ⟨rfl, rfl⟩
                · have h57 : (57 : Int) < ((b.toNat : Nat) : Int) := by omega
                  clear hd hd2 hall hb
                  go_wp2_with fail
                  go_ret2
                  exact ⟨rfl, rfl⟩
            · have ei : t.take i = t := List.take_of_length_le (by rw [← Hsz.out]; omega)
              have ha : t.all digB = true := by
                have := hall.out
                rwa [ei] at this
              have hr : R = some (-((magF 0 t : Nat) : Int)) := by
                obtain ⟨M, hM, hr⟩ := HM.out
                rw [← hr, hM]
                unfold magN
                rw [magB_all ha, decide_eq_true hX1, decide_eq_true hX14]
                rfl
              have hi2 : ¬ (i : Int) < ((strB t).size : Int) := by omega
              rw [ei] at hnb ⊢
              subst hr
              clear hall ha ei
              go_wp2_with fail
              go_ret2
              exact ⟨rfl, rfl⟩
    · skip
      have e0 : negB (c :: t) = false := by rw [hn]; simp [hc]
      have e1 : magOf (c :: t) = c :: t := by unfold magOf; rw [e0]; rfl
      have hc2 : ¬ ((c.toNat : Nat) : Int) = 45 := fun e => hc (UInt8.toNat_inj.1 (by have : (45 : UInt8).toNat = 45 := rfl; omega))
      obtain ⟨R, hR⟩ : ∃ R, magN (negB (c :: t)) (magOf (c :: t)) = R := ⟨_, rfl⟩
      rw [hR]
      rw [e0, e1] at hR
      have HM : Hid (∃ M, M = (c :: t) ∧ magN false M = R) := Hid.mk ⟨_, rfl, hR⟩
      have hsz : (strB (c :: t)).size ≤ 100000 := by rw [strB_size]; simp only [List.length_cons] at hl ⊢; omega
      clear hR e0 e1 hn hc hl
      by_cases h1 : ((strB (c :: t)).size : Int) < 1
      · have hr : R = none := by
          obtain ⟨M, hM, hr⟩ := HM.out
          rw [← hr]
          rw [strB_size, ← hM] at h1
          unfold magN magB
          rw [if_neg]
          simp
          omega
        exfalso
        omega
      · by_cases h14 : (14 : Int) < ((strB (c :: t)).size : Int)
        · have hr : R = none := by
            obtain ⟨M, hM, hr⟩ := HM.out
            rw [← hr]
            rw [strB_size, ← hM] at h14
            unfold magN magB
            rw [if_neg]
            simp
            omega
          subst hr
          go_wp2_with fail
          go_ret2
          exact ⟨rfl, rfl⟩
        · have hX14 : (c :: t).length ≤ 14 := by rw [strB_size] at h14; omega
          have hX1 : 1 ≤ (c :: t).length := by rw [strB_size] at h1; omega
          have Hsz := Hid.mk (strB_size (c :: t))
          go_wp2_with fail
          go_loopw [6, 5, 25, 26, 27, 28, 29, 30, 31, 32, 33, 34, 35, 36, 37, 38, 39, 40, 41, 42, 43, 44, 45, 46, 47, 48] (fun p q _ _ _ _ _ _ _ _ _ _ _ _ _ _ _ _ _ _ _ _ _ _ _ _ wr => ∃ i : Nat, i ≤ (strB (c :: t)).size ∧ p = .int .i64 i ∧ q = .int .i64 ((magF 0 ((c :: t).take i) : Nat) : Int) ∧ Hid (((c :: t).take i).all digB = true) ∧ wr = w) (fun p _ _ _ _ _ _ _ _ _ _ _ _ _ _ _ _ _ _ _ _ _ _ _ _ _ _ => (strB (c :: t)).size - (intOf p).toNat)
          case atStart => exact ⟨0, by omega, rfl, rfl, Hid.mk (by simp), rfl⟩
          case round =>
            obtain ⟨i, hi, rfl, rfl, hall, rfl⟩ := hrel
            have hnb : magF 0 ((c :: t).take i) < 100000000000000 := by
              have h2 := magF_lt ((c :: t).take i) 0 0 (by omega) hall.out
              have h3 : ((c :: t).take i).length ≤ 14 := by rw [List.length_take]; omega
              have h5 : (10 : Nat) ^ (0 + ((c :: t).take i).length) ≤ 10 ^ 14 := Nat.pow_le_pow_right (by omega) (by omega)
              have : (10 : Nat) ^ 14 = 100000000000000 := by decide
              omega
            by_cases hlt : i < (strB (c :: t)).size
            · obtain ⟨b, hb⟩ : ∃ b, (c :: t)[i]? = some b := ⟨_, List.getElem?_eq_getElem (by rw [← Hsz.out]; exact hlt)⟩
              have hix := strB_get hb
              have hl2 : (i : Int) < ((strB (c :: t)).size : Int) := by omega
              have hl0 : (0 : Int) ≤ (i : Int) := by omega
              cases hd : digB b with
              | true =>
                have hd2 := dig_iff.1 hd
                have hall2 := Hid.mk (all_take hall.out hb hd)
                have hnx := Hid.mk (magF_take hb)
                have h48 : ¬ ((b.toNat : Nat) : Int) < 48 := by omega
                have h57 : ¬ (57 : Int) < ((b.toNat : Nat) : Int) := by omega
                have hs48 := sub48 hd2.1
                have hd9 : ((b.toNat - 48 : Nat) : Int) ≤ 9 := by omega
                clear hd hall hb
                generalize magF 0 ((c :: t).take i) = N at *
                go_wp2_with fail
                go_roundw
                case rel => exact ⟨i + 1, by omega, by simp, by rw [hnx.out]; simp, hall2, trivial⟩
                case measure =>
                  simp [intOf]
                  omega
              | false =>
                have hr : R = none := by
                  obtain ⟨M, hM, hr⟩ := HM.out
                  rw [← hr, hM]
                  unfold magN
                  rw [magB_bad (all_bad hb hd)]
                  rfl
                subst hr
                have hd2 : ¬ (48 ≤ b.toNat ∧ b.toNat ≤ 57) := fun h => by rw [dig_iff.2 h] at hd; cases hd
                by_cases h48 : ((b.toNat : Nat) : Int) < 48
                · clear hd hd2 hall hb
                  go_wp2_with fail
                  go_ret2
                  exact ⟨rfl, rfl⟩
                · have h57 : (57 : Int) < ((b.toNat : Nat) : Int) := by omega
                  clear hd hd2 hall hb
                  go_wp2_with fail
                  go_ret2
                  exact ⟨rfl, rfl⟩
            · have ei : (c :: t).take i = (c :: t) := List.take_of_length_le (by rw [← Hsz.out]; omega)
              have ha : (c :: t).all digB = true := by
                have := hall.out
                rwa [ei] at this
              have hr : R = some (((magF 0 (c :: t) : Nat) : Int)) := by
                obtain ⟨M, hM, hr⟩ := HM.out
                rw [← hr, hM]
                unfold magN
                rw [magB_all ha, decide_eq_true hX1, decide_eq_true hX14]
                rfl
              have hi2 : ¬ (i : Int) < ((strB (c :: t)).size : Int) := by omega
              rw [ei] at hnb ⊢
              subst hr
              clear hall ha ei
              go_wp2_with fail
              go_ret2
              exact ⟨rfl, rfl⟩

end Go.Proofs.YtbcdjpafdmgbmaaDoor
namespace Go.Proofs.YtbcdjpafdmgbmaaDoor
open Go.RowKit

/-- Rows of texts of the call's own; texts anywhere. -/
def RowS (w : World) (lo : Nat) (v : Value) (ws : List (List UInt8)) : Prop := w.ownsRow lo 9 1 v ws.length (ws.map (fun x => Value.string (strB x)))
def WV (w : World) (a : Option Addr) (ws : List (List UInt8)) : Prop := ∀ j x, ws[j]? = some x → ∃ b o, a = some ⟨b, o, none⟩ ∧ w.cell? ⟨b, o + j, none⟩ = some (.string (strB x))
theorem WV.below {w w' : World} {a : Option Addr} {ws : List (List UInt8)} (h : WV w a ws) (hb : Below w.heap.size w w') : WV w' a ws := fun j x hj => by
  obtain ⟨b, o, e, hc⟩ := h j x hj
  exact ⟨b, o, e, cell_on hb hc⟩
theorem RowS.nil (w : World) (lo : Nat) : RowS w lo (.slice none 0 0) [] := World.ownsRow_nil w lo 9 1
theorem RowS.sl {w : World} {lo n : Nat} {v : Value} {ws : List (List UInt8)} (h : RowS w lo v ws) (hn : ws.length = n) : ∃ a c, v = .slice a n c ∧ n ≤ c ∧ WV w a ws := by
  subst hn
  obtain ⟨a, c, e, h1, h2, _⟩ := owns_rw h
  refine ⟨a, c, e, h1, fun j x hj => ?_⟩
  exact h2 j _ (by rw [List.getElem?_map, hj]; rfl)
theorem RowS.below {w w' : World} {lo : Nat} {v : Value} {ws : List (List UInt8)} (h : RowS w lo v ws) (hb : Below w.heap.size w w') : RowS w' lo v ws := owns_below h hb
theorem info9 : (Tryd.prog.info? 9).map (fun i => (i.zero, i.size, i.bytes)) = some (some (.string ⟨#[]⟩), 1, 16) := by kernel_rfl
theorem run_ownS {w : World} {ty : TypeId} {B : Nat} {v : Value} {xs : List (List UInt8)} {x : List UInt8} (hown : RowS w B v xs) {ad : Addr} {c : Nat} (hr : w.cell? ad = some (.string (strB x))) (hs : ad.spot = none) (hk : xs.length + 1 ≤ 100000) (hb : B ≤ w.heap.size) :
    ∃ v' w', (Builtin.append_ #[84, 84] ty #[v, .slice (some ad) 1 c]).run Tryd.prog w = .ok v' w' ∧ RowS w' B v' (xs ++ [x]) ∧ w.grownBy w' v.ownBlock ∧ (v'.ownBlock = v.ownBlock ∨ v'.ownBlock = some w.heap.size) := by
  have hy : Rw w (some ad) [.string (strB x)] := fun j u hu => by
    cases j with
    | zero =>
      simp at hu
      subst hu
      obtain ⟨b, o, sp⟩ := ad
      simp only at hs
      subst hs
      exact ⟨b, o, rfl, hr⟩
    | succ j => simp at hu
  obtain ⟨v', w', hrun, r1, r2, r3⟩ := run_own (t := 84) (ty := ty) (c := c) (m := 1) Tryd.underlying84 info9 rfl (by decide) hown hy rfl (fun u hu => by simp at hu; subst hu; rfl) (by unfold maxLen; omega) (by omega) hb
  refine ⟨v', w', hrun, ?_, r2, r3⟩
  unfold RowS
  rw [List.map_append, List.length_append]
  exact r1
theorem wpList_appS {w : World} {ops : Array Oper} {rest : List Oper} {o : Oper} {a : Act} {Q : Exit → Act → World → Prop} (hg : o.guard = none) (s x : Operand) (hop : o.op = Op.call { callee := Callee.builtin Builtin.append, args := #[s, x], argTypes := #[84, 84] })
    (B : Nat) (v : Value) (xs : List (List UInt8)) (hs : a.eval s = v) (hown : RowS w B v xs) (y : List UInt8) (ad : Addr) (c : Nat) (hx : a.eval x = .slice (some ad) 1 c) (hr : w.cell? ad = some (.string (strB y))) (hsp : ad.spot = none)
    (hk : xs.length + 1 ≤ 100000) (hb : B ≤ w.heap.size)
    (hK : ∀ v' w', RowS w' B v' (xs ++ [y]) → w.grownBy w' v.ownBlock → wpList Tryd.prog ops Q rest (a.put o.dst v') w') :
    wpList Tryd.prog ops Q (o :: rest) a w := by
  refine wpList_plain hg fun K hK' => ?_
  obtain ⟨v', w', hrun, r1, r2, _⟩ := run_ownS (ty := o.type) (c := c) hown hr hsp hk hb
  unfold Oper.wp execOp
  simp only [hop, resolve, invoke, builtin, Sem.run_bind, Sem.run_pure, Result.andThen_ok, List.map_toArray, List.map_cons, List.map_nil, hs, hx, hrun]
  exact hK' _ _ (hK v' w' r1 r2)
theorem strB_one {s : List UInt8} {i : Nat} {b : UInt8} (h : s[i]? = some b) (w : World) : (Instr.slice 9 (.string (strB s)) (some (.int .i64 (i : Int))) (some (.int .i64 ((i : Int) + 1))) none).run Tryd.prog w = .ok (.string (strB [b])) w := by
  have hi := (List.getElem?_eq_some_iff.1 h).1
  have hs : (strB s).size = s.length := strB_size s
  have he : (strB s).extract i (i + 1) = strB [b] := by
    rw [ext_str, strB_data, show i + 1 - i = 1 by omega, List.drop_eq_getElem_cons hi, (List.getElem?_eq_some_iff.1 h).2]
    rfl
  have h1 : (i : Int) + 1 ≤ (s.length : Int) := by omega
  have h2 : (0 : Int) ≤ (i : Int) := by omega
  have h3 : ((i : Int) + 1).toNat = i + 1 := by omega
  have h4 : ¬ (s.length : Int) < (i : Int) + 1 := by omega
  go_simp
  rw [if_pos (by omega), if_pos (by omega)]

theorem words_more {s cur : List UInt8} {i : Nat} {b : UInt8} (h : s[i]? = some b) (hb : b ≠ 32) : wordsG cur (s.drop i) = wordsG (cur ++ [b]) (s.drop (i + 1)) := by
  have hi := (List.getElem?_eq_some_iff.1 h).1
  rw [List.drop_eq_getElem_cons hi, (List.getElem?_eq_some_iff.1 h).2, wordsG, if_neg hb]
theorem words_gap {s cur : List UInt8} {i : Nat} (h : s[i]? = some 32) : wordsG cur (s.drop i) = (if cur = [] then [] else [cur]) ++ wordsG [] (s.drop (i + 1)) := by
  have hi := (List.getElem?_eq_some_iff.1 h).1
  rw [List.drop_eq_getElem_cons hi, (List.getElem?_eq_some_iff.1 h).2, wordsG, if_pos rfl]
  split <;> rfl
theorem words_end {s cur : List UInt8} {i : Nat} (h : i = s.length) : wordsG cur (s.drop i) = (if cur = [] then [] else [cur]) := by
  rw [List.drop_eq_nil_of_le (by omega), wordsG]
theorem wordsG_count : ∀ (s cur : List UInt8), (wordsG cur s).length ≤ s.length + 1
  | [], cur => by unfold wordsG; split <;> simp
  | c :: t, cur => by
    have h1 := wordsG_count t []
    have h2 := wordsG_count t (cur ++ [c])
    unfold wordsG
    split
    · split
      · simp; omega
      · simp; omega
    · simp; omega

set_option maxRecDepth 100000 in
set_option maxHeartbeats 4000000 in
theorem rwords_any (s : List UInt8) (hl : s.length ≤ 10000) (w : World) :
    Calls Tryd.prog 50 #[.string (strB s)] w fun e w' => (∃ v, e = .returned v ∧ RowS w' w.heap.size v (wordsB s)) ∧ Below w.heap.size w w' := by
  have hz := strB_size s
  have hcount := wordsG_count s []
  have e0 := Hid.mk (show wordsB s = [] ++ wordsG [] (s.drop 0) from rfl)
  obtain ⟨W, hW⟩ : ∃ W, wordsB s = W := ⟨_, rfl⟩
  change (wordsB s).length ≤ _ at hcount
  rw [hW] at e0 hcount ⊢
  clear hW
  go_enter Tryd.func50, Tryd.ntmps50
  go_wp2_with fail
  go_loopw [5, 3, 4, 6, 7, 8, 9, 10, 11, 12, 13, 14, 15, 16, 17, 18, 19, 20, 21, 22, 23, 24, 25, 26, 27, 28, 29, 30, 31, 32, 33, 34] (fun p q r _ _ _ _ _ _ _ _ _ _ _ _ _ _ _ _ _ _ _ _ _ _ _ _ _ _ _ _ _ wr => ∃ (i : Nat) (L : List (List UInt8)) (cur : List UInt8), i ≤ s.length + 1 ∧ p = .int .i64 i ∧ RowS wr w.heap.size q L ∧ r = .string (strB cur) ∧ cur.length ≤ i ∧ L.length ≤ i ∧ Hid (i ≤ s.length → W = L ++ wordsG cur (s.drop i)) ∧ Hid (i = s.length + 1 → W = L) ∧ Below w.heap.size w wr) (fun p _ _ _ _ _ _ _ _ _ _ _ _ _ _ _ _ _ _ _ _ _ _ _ _ _ _ _ _ _ _ _ _ => s.length + 1 - (intOf p).toNat)
  case atStart => exact ⟨0, [], [], by omega, rfl, RowS.nil _ _, rfl, by simp, by simp, Hid.mk (fun _ => e0.out), Hid.mk (fun h => by omega), Below.refl _ _⟩
  case round =>
    obtain ⟨i, L, cur, hi, rfl, hr, rfl, hcl, hLl, hI, hJ, hb⟩ := hrel
    obtain ⟨m, hm⟩ : ∃ m, L.length = m := ⟨_, rfl⟩
    obtain ⟨ra, rc, ev, _⟩ := hr.sl hm
    subst ev
    have Hm := Hid.mk hm
    clear hm e0
    by_cases hle : i ≤ s.length
    · have hI2 := Hid.mk (hI.out hle)
      clear hI hJ
      have hle2 : (i : Int) ≤ (s.length : Int) := by omega
      by_cases hlt : i < s.length
      · have hlt2 : (i : Int) < (s.length : Int) := by omega
        have hl0 : (0 : Int) ≤ (i : Int) := by omega
        obtain ⟨b, hb2⟩ : ∃ b, s[i]? = some b := ⟨_, List.getElem?_eq_getElem hlt⟩
        have hix := strB_get hb2
        by_cases h32 : b = 32
        · subst h32
          have h33 : (((32 : UInt8).toNat : Nat) : Int) = 32 := rfl
          by_cases hcur : cur = []
          · subst hcur
            have hem : (strB []).toList.isEmpty = true := by rw [strB_list]; rfl
            have hem2 : (strB []).toList = [] := by rw [strB_list]
            have hnx := Hid.mk (show W = L ++ wordsG [] (s.drop (i + 1)) by rw [hI2.out, words_gap hb2]; rfl)
            clear hb2 hI2
            have Hst : Hid (strB [] = ⟨#[]⟩) := Hid.mk rfl
            generalize strB [] = E at *
            go_wp2_with fail
            go_roundw
            case rel => exact ⟨i + 1, L, [], by omega, by simp, hr, rfl, by simp, by omega, Hid.mk (fun _ => hnx.out), Hid.mk (fun h => by omega), hb⟩
            case measure =>
              simp [intOf]
              omega
          · have hem : (strB cur).toList.isEmpty = false := by rw [strB_list]; cases cur <;> simp_all
            have hem2 : ¬ (strB cur).toList = [] := by rw [strB_list]; exact hcur
            have hnx := Hid.mk (show W = L ++ [cur] ++ wordsG [] (s.drop (i + 1)) by rw [hI2.out, words_gap hb2, if_neg hcur]; simp)
            clear hb2 hI2
            have hcl2 : (wr.alloc (.cells #[.string (strB cur)] 9)).cell? ⟨wr.heap.size, 0, none⟩ = some (.string (strB cur)) := by simp [go_sem]
            have hrA : RowS (wr.alloc (.cells #[.string (strB cur)] 9)) w.heap.size (.slice ra m rc) L := hr.below ((Below.refl _ wr).alloc (Nat.le_refl _) _)
            have hbA : Below w.heap.size w (wr.alloc (.cells #[.string (strB cur)] 9)) := hb.alloc hb.size _
            clear hcur
            go_wp2_with (at_builtin; refine wpList_appS rfl _ _ rfl w.heap.size _ L rfl hrA cur ⟨wr.heap.size, 0, none⟩ 1 rfl hcl2 rfl (by omega) hbA.size ?_; intro v4 w4 hr4 hg4; obtain ⟨a4, c4, ev4, _⟩ := hr4.sl (n := m + 1) (by simp [Hm.out]); subst ev4)
            go_roundw
            case rel => exact ⟨i + 1, L ++ [cur], [], by omega, by simp, hr4, rfl, by simp, by simp; omega, Hid.mk (fun _ => hnx.out), Hid.mk (fun h => by omega), below_grown hbA hg4 hrA hbA.size⟩
            case measure =>
              simp [intOf]
              omega
        · have h33 : ¬ ((b.toNat : Nat) : Int) = 32 := fun e => h32 (UInt8.toNat_inj.1 (by have : (32 : UInt8).toNat = 32 := rfl; omega))
          have hone := strB_one hb2
          have happ := strB_app cur [b]
          have hsz : ¬ 9223372036854775807 < (strB cur).size + (strB [b]).size := by rw [strB_size, strB_size]; simp; omega
          have hnx := Hid.mk (show W = L ++ wordsG (cur ++ [b]) (s.drop (i + 1)) by rw [← words_more hb2 h32]; exact hI2.out)
          clear hb2 h32 hI2
          go_wp2_with fail
          go_roundw
          case rel => exact ⟨i + 1, L, cur ++ [b], by omega, by simp, hr, rfl, by simp; omega, by omega, Hid.mk (fun _ => hnx.out), Hid.mk (fun h => by omega), hb⟩
          case measure =>
            simp [intOf]
            omega
      · have hlt2 : ¬ (i : Int) < (s.length : Int) := by omega
        by_cases hcur : cur = []
        · subst hcur
          have hem : (strB []).toList.isEmpty = true := by rw [strB_list]; rfl
          have hem2 : (strB []).toList = [] := by rw [strB_list]
          have hnx := Hid.mk (show W = L by rw [hI2.out, words_end (by omega)]; simp)
          clear hI2
          have Hst : Hid (strB [] = ⟨#[]⟩) := Hid.mk rfl
          generalize strB [] = E at *
          go_wp2_with fail
          go_roundw
          case rel => exact ⟨i + 1, L, [], by omega, by simp, hr, rfl, by simp, by omega, Hid.mk (fun h => by omega), Hid.mk (fun _ => hnx.out), hb⟩
          case measure =>
            simp [intOf]
            omega
        · have hem : (strB cur).toList.isEmpty = false := by rw [strB_list]; cases cur <;> simp_all
          have hem2 : ¬ (strB cur).toList = [] := by rw [strB_list]; exact hcur
          have hnx := Hid.mk (show W = L ++ [cur] by rw [hI2.out, words_end (by omega), if_neg hcur])
          clear hI2
          have hcl2 : (wr.alloc (.cells #[.string (strB cur)] 9)).cell? ⟨wr.heap.size, 0, none⟩ = some (.string (strB cur)) := by simp [go_sem]
          have hrA : RowS (wr.alloc (.cells #[.string (strB cur)] 9)) w.heap.size (.slice ra m rc) L := hr.below ((Below.refl _ wr).alloc (Nat.le_refl _) _)
          have hbA : Below w.heap.size w (wr.alloc (.cells #[.string (strB cur)] 9)) := hb.alloc hb.size _
          clear hcur
          go_wp2_with (at_builtin; refine wpList_appS rfl _ _ rfl w.heap.size _ L rfl hrA cur ⟨wr.heap.size, 0, none⟩ 1 rfl hcl2 rfl (by omega) hbA.size ?_; intro v4 w4 hr4 hg4; obtain ⟨a4, c4, ev4, _⟩ := hr4.sl (n := m + 1) (by simp [Hm.out]); subst ev4)
          go_roundw
          case rel => exact ⟨i + 1, L ++ [cur], [], by omega, by simp, hr4, rfl, by simp, by simp; omega, Hid.mk (fun h => by omega), Hid.mk (fun _ => hnx.out), below_grown hbA hg4 hrA hbA.size⟩
          case measure =>
            simp [intOf]
            omega
    · have hn2 : ¬ (i : Int) ≤ (s.length : Int) := by omega
      have HW := Hid.mk (hJ.out (by omega))
      clear hI hJ
      go_wp2_with fail
      go_ret
      exact ⟨⟨_, rfl, by rw [HW.out]; exact hr⟩, hb⟩

end Go.Proofs.YtbcdjpafdmgbmaaDoor
