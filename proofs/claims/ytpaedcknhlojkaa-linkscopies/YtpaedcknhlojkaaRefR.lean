/- Contracts of the reference's Remove, Pop, Move. -/
import Derived.Test.YtpaedcknhlojkaaRefP
import Derived.Test.YtpaedcknhlojkaaMoveM
import Derived.BigRegion
namespace Go.Proofs.Ytpaedcknhlojkaa
open Go.RowKit

section
variable {w : World} {lo M LB N L : Nat} {ls : List (List Nat)}

/-- Two lists' slices become other ones. -/
theorem RL.put2 {w1 : World} (h : RL w lo M LB N L ls) (hb : But [] w w1) {i j : Nat} {q' : List Nat} {v' : Value} (hi : i < L) (hj : j < L) (hr : RowI w1 lo v' (ints q')) (ho : Ok N L ((ls.set i q').set j [])) :
    RL ((w1.setCell ⟨LB, i, none⟩ v').setCell ⟨LB, j, none⟩ (.slice none 0 0)) lo M LB N L ((ls.set i q').set j []) ∧ But [LB] w ((w1.setCell ⟨LB, i, none⟩ v').setCell ⟨LB, j, none⟩ (.slice none 0 0)) := by
  have h1 := h.keep hb
  obtain ⟨vs, k1, k2, k3⟩ := h1.l
  have hb2 : But [LB] w1 ((w1.setCell ⟨LB, i, none⟩ v').setCell ⟨LB, j, none⟩ (.slice none 0 0)) := ((But.refl _ _).set (p := ⟨LB, i, none⟩) (by simp) _).set (p := ⟨LB, j, none⟩) (by simp) _
  have hlo := h.bl
  refine ⟨⟨(Below.heap_setCell _ ⟨LB, j, none⟩ _ M h.ne).trans ((Below.heap_setCell w1 ⟨LB, i, none⟩ _ M h.ne).trans h1.m), ⟨(vs.set i v').set j (.slice none 0 0), ?_, by simpa using k2, fun k q hq => ?_⟩, ho, h.n, h.ll, h.ml, h.bl, h.ne, Nat.le_trans h1.lo hb2.size⟩, (hb.wide).trans hb2⟩
  · have e1 := heap_setCell_same w1 LB i _ 33 v' k1
    have e2 := heap_setCell_same _ LB j _ 33 (.slice none 0 0) e1
    rw [e2]
    simp
  · rcases get_set hq with ⟨rfl, rfl⟩ | ⟨hkj, hq'⟩
    · exact ⟨.slice none 0 0, List.getElem?_set_self (by simp; omega), World.ownsRow_nil _ _ _ _⟩
    · rcases get_set hq' with ⟨rfl, rfl⟩ | ⟨hki, hq''⟩
      · exact ⟨v', by rw [List.getElem?_set_ne (Ne.symm hkj), List.getElem?_set_self (by omega)], hr.but hb2 (by simpa using hlo)⟩
      · obtain ⟨v, e, hr'⟩ := k3 k q hq''
        exact ⟨v, by rw [List.getElem?_set_ne (Ne.symm hkj), List.getElem?_set_ne (Ne.symm hki)]; exact e, hr'.but hb2 (by simpa using hlo)⟩

theorem Ok.set2 {N L : Nat} {ls : List (List Nat)} (h : Ok N L ls) {a b : Nat} {X Y : List Nat} (hab : a ≠ b) (hX : ls[a]? = some X) (hY : ls[b]? = some Y) : Ok N L ((ls.set b (Y ++ X)).set a []) := by
  have h1 : Ok N L (ls.set a []) := h.sub hX (List.nil_sublist _)
  rw [set_set_ne (Ne.symm hab)]
  refine h1.set ?_ ?_ ?_
  · intro x hx
    rcases List.mem_append.1 hx with hx | hx
    · exact h.lt b Y hY x hx
    · exact h.lt a X hX x hx
  · rw [List.nodup_append]
    refine ⟨h.nd b Y hY, h.nd a X hX, fun x hx y hy e => ?_⟩
    subst e
    exact h.dj a b X Y hX hY hab x hy hx
  · intro j q hj hjb x hx hm
    rcases get_set hj with ⟨rfl, rfl⟩ | ⟨hja, hj'⟩
    · simp at hm
    · rcases List.mem_append.1 hx with hx | hx
      · exact h.dj b j Y q hY hj' (Ne.symm hjb) x hx hm
      · exact h.dj a j X q hX hj' (Ne.symm hja) x hx hm

set_option maxHeartbeats 2000000 in
theorem rremove_any (h : RL w lo M LB N L ls) (t : Int) :
    Calls Try.prog 29 #[.pointer (some ⟨M, 0, none⟩), .int .i64 t] w fun e w' => e = .returned (.int .i64 (remE N ls t)) ∧ RL w' lo M LB N L (remS N ls t) ∧ But [LB] w w' := by
  have HT := rthing_any h t
  have HW := rwhere_any h t
  by_cases hz : remE N ls t = 0
  · obtain ⟨i, b, pre, post, rfl, hb, hi, hwi, hq, e⟩ := remE_zero h.ok hz
    have hin : inN N (b : Int) = true := inN_of hb
    rw [e, hz]
    rw [hin] at HT
    rw [hwi] at HW
    have hle := h.ok.short hq
    have hN := h.n
    have hLL := h.ll
    have hlo := h.lo
    have hfm := filter_mid (h.ok.nd i _ hq)
    have hok : Ok N L (ls.set i (pre ++ post)) := h.ok.sub hq (List.Sublist.append (List.Sublist.refl _) (List.sublist_cons_self _ _))
    have PT : ∀ w1 v', But [] w w1 → RowI w1 lo v' (ints (pre ++ post)) → RL (w1.setCell ⟨LB, i, none⟩ v') lo M LB N L (ls.set i (pre ++ post)) ∧ But [LB] w (w1.setCell ⟨LB, i, none⟩ v') := fun w1 v' hb hr => h.put hb hi hr hok
    obtain ⟨a, c, hc, hr⟩ := h.row hq
    have hia := hr.at
    have c1 := h.c1
    have HF : ∀ w1, But [] w w1 → w1.cell? ⟨M, 1, none⟩ = some (.slice (some ⟨LB, 0, none⟩) L L) ∧ w1.frozen? ⟨LB, i, none⟩ = false ∧ w1.cell? ⟨LB, i, none⟩ = some (.slice a (pre ++ b :: post).length c) := fun w1 hb => ⟨hb.cell c1, (h.keep hb).fz i, hb.cell hc⟩
    generalize ls.set i (pre ++ post) = ls' at *
    have hi' : (i : Int) < (L : Int) := by omega
    have hi0 : (0 : Int) ≤ (i : Int) := by omega
    obtain ⟨q, hqq⟩ : ∃ q, q = pre ++ b :: post := ⟨_, rfl⟩
    rw [← hqq] at hc hia hle HF hfm
    rw [← hfm] at PT
    clear hfm hz e hr hqq hq hok hwi
    go_enter Try.func29, Try.ntmps29
    go_wp2_with (first
      | (go_at_call 46; refine HT.mono ?_; rintro e w' ⟨rfl, hw⟩; subst w')
      | (go_at_call 13; refine HW.mono ?_; rintro e w' ⟨rfl, hw⟩; subst w'))
    go_loopw [26, 6, 8] (fun v u _ wr => ∃ j : Nat, j ≤ q.length ∧ v = .int .i64 j ∧ RowI wr w.heap.size u (ints ((q.take j).filter (fun y => !(y == b)))) ∧ But [] w wr) (fun v _ _ _ => 4096 - (intOf v).toNat)
    case atStart => exact ⟨0, by omega, rfl, World.ownsRow_nil _ _ _ _, But.refl _ _⟩
    case round =>
      obtain ⟨j, hj, rfl, hrow, hB⟩ := hrel
      by_cases hjq : j < q.length
      · obtain ⟨g, rfl, cx0⟩ := hia j (q[j] : Nat) (by rw [ints, List.getElem?_map, List.getElem?_eq_getElem hjq]; rfl)
        have cx := hB.cell cx0
        have hjq' : (j : Int) < (q.length : Int) := by omega
        have ht : q.take (j + 1) = q.take j ++ [q[j]] := by rw [List.take_add_one, List.getElem?_eq_getElem hjq]; rfl
        have hfl : ((q.take j).filter (fun y => !(y == b))).length ≤ 4096 := by
          have h1 := List.length_filter_le (fun y => !(y == b)) (q.take j)
          rw [List.length_take] at h1
          omega
        generalize q[j] = x at *
        by_cases hxb : x = b
        · subst hxb
          have hf : (q.take (j + 1)).filter (fun y => !(y == x)) = (q.take j).filter (fun y => !(y == x)) := by
            rw [ht, List.filter_append]
            simp
          rw [← hf] at hrow
          clear ht hf hfl
          go_wp2_with fail
          go_roundw
          case rel => exact ⟨j + 1, by omega, by simp, hrow, hB⟩
          case measure =>
            simp [intOf]
            omega
        · have hxb' : ((x : Int) == (b : Int)) = false := by
            have : (x : Int) ≠ (b : Int) := by omega
            simpa using this
          have hf : (q.take (j + 1)).filter (fun y => !(y == b)) = (q.take j).filter (fun y => !(y == b)) ++ [x] := by
            rw [ht, List.filter_append]
            simp [hxb]
          have HFF : Hid ((q.take (j + 1)).filter (fun y => !(y == b)) = (q.take j).filter (fun y => !(y == b)) ++ [x]) := hf
          clear ht hf
          generalize (q.take j).filter (fun y => !(y == b)) = p at *
          have hrow' : wr.ownsRow w.heap.size 3 1 u6 p.length ((ints p).map (Value.int .i64)) := by have := hrow; unfold RowI at this; rwa [ints_len] at this
          obtain ⟨ua, uc, rfl⟩ := own_shape hrow'
          go_wp2_with (first
            | (at_builtin; refine wpList_app rfl _ _ rfl w.heap.size _ _ _ rfl (hrow'.alloc _) _ _ _ [(x : Int)] rfl rfl (reads_one _ _) (by omega) (by have := hB.size; simp; omega) ?_; intro v3 w3 ho3 hg3; have hb3 : But [] w w3 := (hB.alloc _).grown hg3 (fun k e => (hrow'.lt k e).1)))
          go_roundw
          case rel =>
            refine ⟨j + 1, by omega, by simp, ?_, hb3⟩
            rw [HFF.out]
            unfold RowI
            rw [ints_len, List.length_append]
            have e : ints (p ++ [x]) = ints p ++ [(x : Int)] := by simp [ints]
            rw [e]
            exact ho3
          case measure =>
            simp [intOf]
            omega
      · obtain rfl : j = q.length := by omega
        rw [List.take_length] at hrow
        obtain ⟨f1, f2, f3⟩ := HF _ hB
        obtain ⟨ua, uc, rfl, -⟩ := hrow.open'
        obtain ⟨r1, r2⟩ := PT wr _ hB (row_lower hrow hlo)
        clear HF hc c1 PT
        go_wp2_with fail
        go_ret
        exact ⟨rfl, r1, r2⟩
  · have e : remS N ls t = ls := by unfold remS; rw [if_neg hz]
    rw [e]
    unfold remE at hz ⊢
    cases hb : inN N t with
    | false =>
      rw [hb] at HT
      rw [if_neg (by simp)]
      go_enter Try.func29, Try.ntmps29
      go_wp2_with (first
        | (go_at_call 46; refine HT.mono ?_; rintro e w' ⟨rfl, hw⟩; subst w'))
      go_ret
      exact ⟨rfl, h, But.refl _ _⟩
    | true =>
      rw [hb] at HT hz
      rw [if_pos rfl] at hz ⊢
      by_cases hw : wI ls t = -1
      · rw [if_pos hw]
        rw [hw] at HW
        go_enter Try.func29, Try.ntmps29
        go_wp2_with (first
          | (go_at_call 46; refine HT.mono ?_; rintro e w' ⟨rfl, hw⟩; subst w')
          | (go_at_call 13; refine HW.mono ?_; rintro e w' ⟨rfl, hw⟩; subst w'))
        go_ret
        exact ⟨rfl, h, But.refl _ _⟩
      · rw [if_neg hw] at hz
        exact absurd rfl hz
end

end Go.Proofs.Ytpaedcknhlojkaa
