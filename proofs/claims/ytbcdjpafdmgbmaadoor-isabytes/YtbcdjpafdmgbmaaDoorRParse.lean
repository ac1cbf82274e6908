/- The reference's Parse. -/
import Derived.Test.YtbcdjpafdmgbmaaDoorRFrom
namespace Go.Proofs.YtbcdjpafdmgbmaaDoor
open Go.RowKit Go.Shelf

set_option maxRecDepth 100000 in
set_option maxHeartbeats 4000000 in
theorem rparse_any {a : Option Addr} {c Bd : Nat} {bs : List UInt8} {w : World} (h : Byts w Bd a c bs) (hl : bs.length ≤ 100000) :
    Calls Tryd.prog 22 #[.slice a bs.length c] w fun e w' => ∃ o v, Res bs o ∧ e = .returned v ∧ ParV w.heap.size o w' v .i64 ∧ Below w.heap.size w w' := by
  have HR := rread h hl
  have HF := fun (W : World) M (hb : Below w.heap.size w W) (hs : RQ W w.heap.size M (0, bs)) => rfrom_any hs hl hb.size
  generalize hL : bs.length = L at HR ⊢
  clear hL
  go_enter Tryd.func22, Tryd.ntmps22
  go_wp2_with (first
    | (go_at_call 39; (with_reducible refine HR.mono ?_); rintro e w1 ⟨M, rfl, hs1, hb1⟩)
    | (go_at_call 40; (with_reducible refine (HF _ _ hb1 hs1).mono ?_); rintro e w2 ⟨hv2, hb2⟩; have hbz := hb1.trans hb2; rcases hv2 with ⟨v2, rfl, hres⟩ | ⟨v2, ps, st, n, rfl, ho2, hs2, hI, hw, h0⟩; rotate_left))
  · have HE := rend st hs2
    by_cases he : endN st = 0
    · rw [he] at HE
      have he2 : st.2 = [] := by
        unfold endN at he
        by_cases hc : st.1 = 0 ∧ st.2 ≠ []
        · rw [if_pos hc] at he
          cases he
        · exact Classical.byContradiction (fun e => hc ⟨h0, e⟩)
      have hres := Hid.mk (hI.done h0 he2 hw)
      clear hI he2 he h0 hw
      go_wp2_with (go_at_call 41; (with_reducible refine HE.mono ?_); rintro e w3 ⟨rfl, rfl⟩)
      go_ret2
      exact ⟨some ps, _, hres, rfl, ⟨_, rfl, ho2⟩, hbz⟩
    · have hres := Hid.mk (hI.nope (.inr (.inl (by
        unfold endN at he
        by_cases hc : st.1 = 0 ∧ st.2 ≠ []
        · exact hc.2
        · rw [if_neg hc] at he
          exact absurd h0 he))))
      have he3 : ((endN st : Nat) : Int) ≠ 0 := by omega
      generalize ((endN st : Nat) : Int) = z at *
      clear hI he h0 hw
      go_wp2_with (go_at_call 41; (with_reducible refine HE.mono ?_); rintro e w3 ⟨rfl, rfl⟩)
      go_ret2
      exact ⟨none, _, hres, rfl, rfl, hbz⟩
  · go_ret2
    exact ⟨none, _, hres, rfl, rfl, hbz⟩

end Go.Proofs.YtbcdjpafdmgbmaaDoor
