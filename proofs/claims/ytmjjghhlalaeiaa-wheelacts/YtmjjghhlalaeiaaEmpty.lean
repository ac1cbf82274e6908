/- Contract of empty: a row's ids, all taken out. -/
import Derived.Test.YtmjjghhlalaeiaaWput
namespace Go.Proofs.Ytmjjghhlalaeiaa
open Go.RowKit

theorem getD_at {ls : List (List Nat)} {i : Nat} (h : i < ls.length) : ls[i]? = some (ls.getD i []) := by
  rw [List.getD_eq_getElem?_getD, List.getElem?_eq_getElem h]
  rfl

/-- Remove of a row's first. -/
theorem rem_first {N L : Nat} {ls : List (List Nat)} (ho : Ok N L ls) {i a : Nat} {r : List Nat} (h : ls[i]? = some (a :: r)) : remE N ls a = 0 ∧ remS N ls a = ls.set i r := by
  have hw : wI ls (a : Int) = i := by rw [wI_nat]; exact whI_some ho h (by simp)
  have hN : a < N := ho.lt i _ h a (by simp)
  have e : remE N ls a = 0 := by
    unfold remE
    rw [inN_of hN, hw, if_pos rfl, if_neg (by omega)]
  refine ⟨e, ?_⟩
  unfold remS
  rw [if_pos e, hw, lsI_get h, Int.toNat_natCast, Int.toNat_natCast]
  have hnd := ho.nd i _ h
  have hna := (List.nodup_cons.1 hnd).1
  rw [List.filter_cons_of_neg (by simp), List.filter_eq_self.2]
  intro x hx
  have : x ≠ a := fun e => hna (e ▸ hx)
  simpa using this

section
variable {w w' : World} {T : Wp} {N n : Nat} {us : List Int} {ls : List (List Nat)}

theorem WM.five_lt (h : WM w T N n us ls) : ∀ x ∈ T.P.S, x < w.heap.size := fun x hx => h.lt (Wp.PS x hx)

set_option maxHeartbeats 2000000 in
theorem empty_any (h : WM w T N n us ls) (i : Nat) (hi : i < 64) :
    Calls Try.prog 42 #[.pointer (some ⟨T.B, 0, none⟩), .int .i64 i] w fun e w' => ∃ v, e = .returned v ∧ RowI w' w.heap.size v (ints (ls.getD i [])) ∧ WM w' T N n us (ls.set i []) ∧ But T.P.S w w' := by
  have hlt := h.five_lt
  have hli : i < ls.length := by rw [h.l.ok.len]; exact hi
  have hq := getD_at hli
  have hs := h.l.src (i : Int)
  rw [lsI_nat] at hs
  have hle := hs.le
  have HM := members_any T.B (some ⟨T.P.B, 0, none⟩) i _ w h.c66 hs
  have e0 : ls.set i ((ls.getD i []).drop 0) = ls := by rw [List.drop_zero]; exact set_same hq
  generalize ls.getD i [] = q at *
  have HR : ∀ W j a, WM W T N n us (ls.set i (q.drop j)) → q[j]? = some a → Calls Try.prog 47 #[.pointer (some ⟨T.P.B, 0, none⟩), .int .i64 a] W fun e w' => e = .returned (.int .i64 0) ∧ WM w' T N n us (ls.set i (q.drop (j + 1))) ∧ But T.P.S W w' := fun W j a hW ha => by
    refine (remove_any hW.l a).mono ?_
    rintro e w' ⟨rfl, hl, hb⟩
    have hd : q.drop j = a :: q.drop (j + 1) := by
      obtain ⟨hj, e⟩ := List.getElem?_eq_some_iff.1 ha
      rw [← e]
      exact List.drop_eq_getElem_cons hj
    have hg : (ls.set i (q.drop j))[i]? = some (a :: q.drop (j + 1)) := by rw [List.getElem?_set_self hli, hd]
    obtain ⟨e1, e2⟩ := rem_first hW.l.ok hg
    rw [e2, List.set_set] at hl
    exact ⟨by rw [e1], hW.lists hb hl, hb⟩
  have h0 : WM w T N n us (ls.set i (q.drop 0)) := by rw [e0]; exact h
  clear hs hq hli e0 h
  go_enter Try.func42, Try.ntmps42
  go_wp2_with (first
    | (go_at_call 34; refine HM.mono ?_; rintro e w1 ⟨v, rfl, hr, hb⟩; obtain ⟨va, vc, rfl, -⟩ := hr.open'))
  have h1 := h0.below hb
  clear h0 HM
  rw [ints_len]
  go_loopw [13] (fun p wr => ∃ j : Nat, j ≤ q.length ∧ p = .int .i64 j ∧ RowI wr w.heap.size (.slice va (ints q).length vc) (ints q) ∧ WM wr T N n us (ls.set i (q.drop j)) ∧ But T.P.S w wr) (fun p _ => 4096 - (intOf p).toNat)
  case atStart => exact ⟨0, by omega, rfl, hr, h1, .of_below hb⟩
  case round =>
    clear hr h1 hb
    obtain ⟨j, hj, rfl, hr, hW, hB⟩ := hrel
    by_cases hjq : j < q.length
    · have hx : q[j]? = some q[j] := by simp
      have HR' := HR wr j q[j] hW hx
      obtain ⟨a', c', e, hI⟩ := hr.open'
      simp only [Value.slice.injEq] at e
      obtain ⟨rfl, -, rfl⟩ := e
      obtain ⟨g, rfl, hc⟩ := hI j (q[j] : Nat) (by rw [ints, List.getElem?_map, hx]; rfl)
      generalize q[j] = a at *
      have c66 := hW.c66
      have h3 : (j : Int) < (q.length : Int) := by omega
      have h4 : (0 : Int) ≤ (j : Int) := by omega
      clear hI hx HR
      go_wp2_with (first
        | (go_at_call 47; refine HR'.mono ?_; rintro e w2 ⟨rfl, m2, b2⟩))
      go_roundw
      case rel => exact ⟨j + 1, by omega, by simp, hr.but b2 hlt, m2, hB.trans b2⟩
      case measure =>
        simp [intOf]
        omega
    · obtain rfl : j = q.length := by omega
      rw [List.drop_length] at hW
      rw [ints_len] at hr
      clear HR
      go_wp2_with fail
      go_ret
      exact ⟨_, rfl, hr, hW, hB⟩
end
end Go.Proofs.Ytmjjghhlalaeiaa
