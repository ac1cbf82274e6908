/- The walk of RingOrder. -/
import Derived.Test.YtfobfkidpdlkeaaNew
namespace Go.Proofs.Ytfobfkidpdlkeaa
open Go.RowKit

/-- A slice of ints lies in memory; one of bools. -/
def Ints (w : World) (a : Option Addr) (xs : List Int) : Prop := ∀ j x, xs[j]? = some x → ∃ b o, a = some ⟨b, o, none⟩ ∧ w.cell? ⟨b, o + j, none⟩ = some (.int .i64 x)
def Bools (w : World) (a : Option Addr) (xs : List Bool) : Prop := ∀ j x, xs[j]? = some x → ∃ b o, a = some ⟨b, o, none⟩ ∧ w.cell? ⟨b, o + j, none⟩ = some (.bool x)
theorem cell_keep {w w' : World} (hb : Below w.heap.size w w') {p : Addr} {v : Value} (h : w.cell? p = some v) : w'.cell? p = some v :=
  (hb.cell (World.block_lt_of_cell? w p h)).trans h
theorem Ints.below {w w' : World} {a : Option Addr} {xs : List Int} (h : Ints w a xs) (hb : Below w.heap.size w w') : Ints w' a xs := fun j x hx => by
  obtain ⟨b, o, e, hc⟩ := h j x hx
  exact ⟨b, o, e, cell_keep hb hc⟩
theorem Bools.below {w w' : World} {a : Option Addr} {xs : List Bool} (h : Bools w a xs) (hb : Below w.heap.size w w') : Bools w' a xs := fun j x hx => by
  obtain ⟨b, o, e, hc⟩ := h j x hx
  exact ⟨b, o, e, cell_keep hb hc⟩

/-- Two queues, apart, both made since w. -/
structure Two (w W : World) (B G C H n : Nat) (q p : List Int) : Prop where
  r : RQ W B G n q
  s : RQ W C H n p
  a1 : B ≠ C
  a2 : B ≠ H
  a3 : G ≠ C
  a4 : G ≠ H
  l1 : w.heap.size ≤ B
  l2 : w.heap.size ≤ G
  l3 : w.heap.size ≤ C
  l4 : w.heap.size ≤ H
  k : Below w.heap.size w W

section
variable {w W W' : World} {B G C H n : Nat} {q p q' : List Int}
theorem Two.left (h : Two w W B G C H n q p) (h' : RQ W' B G n q') (b : But [B, G] W W') : Two w W' B G C H n q' p :=
  ⟨h', h.s.but b (by have := h.a1; have := h.a3; simp; omega) (by have := h.a2; have := h.a4; simp; omega), h.a1, h.a2, h.a3, h.a4, h.l1, h.l2, h.l3, h.l4,
    h.k.trans (b.below h.k.size (by have := h.l1; have := h.l2; simp; omega))⟩
theorem Two.right (h : Two w W B G C H n q p) (h' : RQ W' C H n q') (b : But [C, H] W W') : Two w W' B G C H n q q' :=
  ⟨h.r.but b (by have := h.a1; have := h.a2; simp; omega) (by have := h.a3; have := h.a4; simp; omega), h', h.a1, h.a2, h.a3, h.a4, h.l1, h.l2, h.l3, h.l4,
    h.k.trans (b.below h.k.size (by have := h.l3; have := h.l4; simp; omega))⟩
end

theorem err_eq (n : Nat) (q : List Int) : (errQ n q == 0) = decide (q.length < n) := by
  unfold errQ
  by_cases h : q.length < n <;> simp [h]
theorem add_take (n i : Nat) (l : List Int) (x : Int) (hx : l[i]? = some x) : addQ n (l.take (min i n)) (l.take (min i n) ++ [x]) = l.take (min (i + 1) n) := by
  have hi := (List.getElem?_eq_some_iff.1 hx).1
  unfold addQ
  rw [List.length_take]
  by_cases h : i < n
  · rw [if_pos (by omega), Nat.min_eq_left (by omega), Nat.min_eq_left (by omega), List.take_add_one, hx]
    rfl
  · rw [if_neg (by omega), Nat.min_eq_right (by omega), Nat.min_eq_right (by omega)]
theorem add_rev (n i : Nat) (l : List Int) (x : Int) (hx : l[i]? = some x) : addQ n (l.take (min i n)).reverse (x :: (l.take (min i n)).reverse) = (l.take (min (i + 1) n)).reverse := by
  rw [← add_take n i l x hx]
  unfold addQ
  rw [List.length_reverse]
  split <;> simp
theorem err_lt (n i : Nat) (l : List Int) (hi : i < l.length) : decide ((l.take (min i n)).length < n) = decide (i < n) := by
  rw [decide_eq_decide, List.length_take]; omega

set_option maxRecDepth 100000 in
set_option maxHeartbeats 1000000 in
theorem order_any (m : Int) (a b : Option Addr) (ca cb : Nat) (l : List Int) (t : List Bool) (w : World) (hm0 : 0 ≤ m) (hm1 : m ≤ 255) (hl : Ints w a l) (ht : Bools w b t) :
    Calls Try.prog 4 #[.int .u8 m, .slice a l.length ca, .slice b t.length cb] w fun e w' => e = .returned (.bool true) ∧ Below w.heap.size w w' := by
  by_cases h1 : 300 < l.length
  · have h1' : (300 : Int) < (l.length : Int) := by omega
    go_enter Try.func4, Try.ntmps4
    go_wp2_with (first
      | (go_at_call 7; refine (lives_any _).mono ?_; rintro e w' ⟨rfl, hb⟩))
    go_ret
    exact ⟨rfl, hb⟩
  · have h1' : (l.length : Int) ≤ 300 := by omega
    by_cases h2 : 300 < t.length
    · have h2' : (300 : Int) < (t.length : Int) := by omega
      go_enter Try.func4, Try.ntmps4
      go_wp2_with (first
        | (go_at_call 7; refine (lives_any _).mono ?_; rintro e w' ⟨rfl, hb⟩))
      go_ret
      exact ⟨rfl, hb⟩
    · have h2' : (t.length : Int) ≤ 300 := by omega
      obtain ⟨n, hn⟩ : ∃ n : Nat, 1 + m % 100 = (n : Int) := ⟨(1 + m % 100).toNat, by omega⟩
      have n1 : 1 ≤ n := by omega
      have n2 : n ≤ 4096 := by omega
      go_enter Try.func4, Try.ntmps4
      go_wp2_with (first
        | (go_at_call 8; refine (new_some n n1 n2 w).mono ?_; rintro e w1 ⟨rfl, hr, hs, hB⟩; have hs' : Hid (w1.heap.size = w.heap.size + 2) := hs; clear hs)
        | (go_at_call 8; refine (new_some n n1 n2 w1).mono ?_; rintro e w2 ⟨rfl, hr2, hs2, hB2⟩))
      have hs := hs'.out
      clear hs'
      have hT : Two w w2 (w.heap.size + 1) w.heap.size (w1.heap.size + 1) w1.heap.size n [] [] :=
        ⟨hr.below hB2, hr2, by omega, by omega, by omega, by omega, by omega, by omega, by omega, by omega, hB.trans (hB2.mono (by omega))⟩
      clear hr hs hB hr2 hs2 hB2
      generalize w1.heap.size + 1 = C at hT ⊢
      generalize w1.heap.size = H at hT
      generalize w.heap.size + 1 = B at hT ⊢
      replace hT : ∃ G, Two w w2 B G C H n [] [] := ⟨_, hT⟩
      obtain ⟨G, hT⟩ := hT
      go_loopw [46] (fun v wr => ∃ j : Nat, j ≤ t.length ∧ v = .int .i64 j ∧ Two w wr B G C H n [] []) (fun v _ => 300 - (intOf v).toNat)
      case atStart => exact ⟨0, by omega, rfl, hT⟩
      case round =>
        obtain ⟨j, hj, rfl, hR⟩ := hrel
        by_cases hlt : j < t.length
        · obtain ⟨b', o, rfl, hc⟩ := (ht.below hR.k) j t[j] (by simp)
          have h3 : (j : Int) < (t.length : Int) := by omega
          generalize t[j] = x at hc
          have eP : addQ n [] ([] ++ [0]) = [0] := by unfold addQ; rw [if_pos (show ([] : List Int).length < n from n1)]; rfl
          cases x
          · go_wp2_with (first
              | (go_at_call 19; refine (push_q hR.r 0).mono ?_; rintro e w3 ⟨rfl, hq, hbb⟩; rw [eP] at hq; have hR3 := hR.left hq hbb; clear hq hbb hc)
              | (go_at_call 21; refine (back_q hR3.r).mono ?_; rintro e w4 ⟨rfl, hq, hbb⟩; have hR4 := hR3.left hq hbb; clear hq hbb))
            go_roundw
            case rel => exact ⟨j + 1, by omega, by simp, hR4⟩
            case measure =>
              simp [intOf]
              omega
          · go_wp2_with (first
              | (go_at_call 19; refine (push_q hR.r 0).mono ?_; rintro e w3 ⟨rfl, hq, hbb⟩; rw [eP] at hq; have hR3 := hR.left hq hbb; clear hq hbb hc)
              | (go_at_call 20; refine (pop_q hR3.r).mono ?_; rintro e w4 ⟨rfl, hq, hbb⟩; have hR4 := hR3.left hq hbb; clear hq hbb))
            go_roundw
            case rel => exact ⟨j + 1, by omega, by simp, hR4⟩
            case measure =>
              simp [intOf]
              omega
        · have h3 : (t.length : Int) ≤ (j : Int) := by omega
          go_wp2_with fail
          clear ht h2 h2' hm0 hm1 hlt hj h3 hT n2
          have hT2 : Two w wr B G C H n (l.take (min 0 n)) (l.take (min 0 n)).reverse := by simpa using hR
          clear hR
          go_loopw [60] (fun v wx => ∃ j : Nat, j ≤ l.length ∧ v = .int .i64 j ∧ Two w wx B G C H n (l.take (min j n)) (l.take (min j n)).reverse) (fun v _ => 300 - (intOf v).toNat)
          case atStart => exact ⟨0, by omega, rfl, hT2⟩
          case round =>
            obtain ⟨j, hj, rfl, hR⟩ := hrel
            by_cases hlt : j < l.length
            · obtain ⟨b', o, rfl, hc⟩ := (hl.below hR.k) j l[j] (by simp)
              have h3 : (j : Int) < (l.length : Int) := by omega
              have hx : l[j]? = some l[j] := by simp
              generalize l[j] = x at hc hx
              have eA := add_take n j l x hx
              have eR := add_rev n j l x hx
              by_cases hjn : j < n
              · have hjn' : (j : Int) < (n : Int) := by omega
                have e1 : errQ n (l.take (min j n)) = 0 := by unfold errQ; rw [if_pos (by rw [List.length_take]; omega)]
                have e2 : errQ n (l.take (min j n)).reverse = 0 := by unfold errQ; rw [if_pos (by rw [List.length_reverse, List.length_take]; omega)]
                go_wp2_with (first
                  | (go_at_call 19; refine (push_q hR.r x).mono ?_; rw [e1, eA]; rintro e w3 ⟨rfl, hq, hbb⟩; have hR3 := hR.left hq hbb; clear hq hbb hc)
                  | (go_at_call 22; refine (front_q hR3.s x).mono ?_; rw [e2, eR]; rintro e w4 ⟨rfl, hq, hbb⟩; have hR4 := hR3.right hq hbb; clear hq hbb))
                go_roundw
                case rel => exact ⟨j + 1, by omega, by simp, hR4⟩
                case measure =>
                  simp [intOf]
                  omega
              · have hjn' : (n : Int) ≤ (j : Int) := by omega
                have e1 : errQ n (l.take (min j n)) = 3 := by unfold errQ; rw [if_neg (by rw [List.length_take]; omega)]
                have e2 : errQ n (l.take (min j n)).reverse = 3 := by unfold errQ; rw [if_neg (by rw [List.length_reverse, List.length_take]; omega)]
                go_wp2_with (first
                  | (go_at_call 19; refine (push_q hR.r x).mono ?_; rw [e1, eA]; rintro e w3 ⟨rfl, hq, hbb⟩; have hR3 := hR.left hq hbb; clear hq hbb hc)
                  | (go_at_call 22; refine (front_q hR3.s x).mono ?_; rw [e2, eR]; rintro e w4 ⟨rfl, hq, hbb⟩; have hR4 := hR3.right hq hbb; clear hq hbb))
                go_roundw
                case rel => exact ⟨j + 1, by omega, by simp, hR4⟩
                case measure =>
                  simp [intOf]
                  omega
            · have h3 : (l.length : Int) ≤ (j : Int) := by omega
              have ej : min j n = min l.length n := by omega
              rw [ej] at hR
              have hT3 : Two w wr B G C H n ((l.take n).drop 0) ((l.take n).drop 0).reverse := by
                have e : l.take (min l.length n) = (l.take n).drop 0 := by
                  rw [List.drop_zero]
                  by_cases h : n ≤ l.length
                  · rw [Nat.min_eq_right h]
                  · rw [Nat.min_eq_left (by omega), List.take_of_length_le (by omega), List.take_of_length_le (by omega)]
                rw [← e]
                exact hR
              go_wp2_with fail
              clear hlt hj h3 hT2 hR ej
              go_loopw [14] (fun v wy => ∃ j : Nat, j ≤ l.length ∧ j ≤ n ∧ v = .int .i64 j ∧ Two w wy B G C H n ((l.take n).drop j) ((l.take n).drop j).reverse) (fun v _ => 300 - (intOf v).toNat)
              case atStart => exact ⟨0, by omega, by omega, rfl, hT3⟩
              case round =>
                obtain ⟨j, hj, hj2, rfl, hR⟩ := hrel
                by_cases hlt : j < l.length ∧ j < n
                · obtain ⟨hlt, hjn⟩ := hlt
                  obtain ⟨b', o, rfl, hc⟩ := hl j l[j] (by simp)
                  have h3 : (j : Int) < (l.length : Int) := by omega
                  have h4 : (j : Int) < (n : Int) := by omega
                  have hx : l[j]? = some l[j] := by simp
                  generalize l[j] = x at hc hx
                  have eD : (l.take n).drop j = x :: (l.take n).drop (j + 1) := by
                    have hl2 : j < (l.take n).length := by rw [List.length_take]; omega
                    rw [List.drop_eq_getElem_cons hl2]
                    congr 1
                    have := List.getElem?_take_of_lt (l := l) hjn
                    rw [hx, List.getElem?_eq_getElem hl2] at this
                    exact Option.some.inj this
                  rw [eD] at hR
                  have eB : (x :: (l.take n).drop (j + 1)).reverse.getLastD 0 = x := by simp
                  have eC : (x :: (l.take n).drop (j + 1)).reverse.dropLast = ((l.take n).drop (j + 1)).reverse := by simp
                  have eE : (x :: (l.take n).drop (j + 1)).reverse.isEmpty = false := by simp
                  go_wp2_with (first
                    | (go_at_call 20; refine (pop_q hR.r).mono ?_; rintro e w3 ⟨rfl, hq, hbb⟩; have hR3 := hR.left hq hbb; clear hq hbb)
                    | (go_at_call 21; refine (back_q hR3.s).mono ?_; rw [eB, eC, eE]; rintro e w4 ⟨rfl, hq, hbb⟩; have hR4 := hR3.right hq hbb; have hc4 := cell_keep hR4.k hc; clear hq hbb))
                  go_roundw
                  case rel => exact ⟨j + 1, by omega, by omega, by simp, hR4⟩
                  case measure =>
                    simp [intOf]
                    omega
                · have eD : (l.take n).drop j = [] := by
                    apply List.drop_eq_nil_of_le
                    rw [List.length_take]
                    omega
                  rw [eD] at hR
                  by_cases hlt2 : j < l.length
                  · have h3 : (j : Int) < (l.length : Int) := by omega
                    have h4 : (n : Int) ≤ (j : Int) := by omega
                    go_wp2_with (first
                      | (go_at_call 20; refine (pop_q hR.r).mono ?_; rintro e w3 ⟨rfl, hq, hbb⟩; have hR3 := hR.left hq hbb; clear hq hbb)
                      | (go_at_call 11; refine (len_q hR3.r).mono ?_; rintro e w4 ⟨rfl, hw⟩; subst w4)
                      | (go_at_call 7; refine (lives_any _).mono ?_; rintro e w5 ⟨rfl, hb5⟩))
                    go_ret
                    exact ⟨rfl, hR3.k.trans (hb5.mono hR3.k.size)⟩
                  · have h3 : (l.length : Int) ≤ (j : Int) := by omega
                    go_wp2_with (first
                      | (go_at_call 20; refine (pop_q hR.r).mono ?_; rintro e w3 ⟨rfl, hq, hbb⟩; have hR3 := hR.left hq hbb; clear hq hbb)
                      | (go_at_call 11; refine (len_q hR3.r).mono ?_; rintro e w4 ⟨rfl, hw⟩; subst w4)
                      | (go_at_call 7; refine (lives_any _).mono ?_; rintro e w5 ⟨rfl, hb5⟩))
                    go_ret
                    exact ⟨rfl, hR3.k.trans (hb5.mono hR3.k.size)⟩

end Go.Proofs.Ytfobfkidpdlkeaa
