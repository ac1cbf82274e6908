/- IsaCuts' walk. -/
import Derived.Test.YtbcdjpafdmgbmaaDoorLives
import Derived.Test.YtbcdjpafdmgbmaaDoorParse
import Derived.Test.YtbcdjpafdmgbmaaDoorBytes
import Derived.Test.YtbcdjpafdmgbmaaDoorCutM
import Derived.Test.YtbcdjpafdmgbmaaDoorCRefD
namespace Go.Proofs.YtbcdjpafdmgbmaaDoor
open Go.RowKit

theorem byts_take {w : World} {B c : Nat} {a : Option Addr} {bs : List UInt8} (h : Byts w B a c bs) (k : Nat) : Byts w B a c (bs.take k) := by
  rcases h with ⟨h1, h2⟩ | ⟨G, o, e, hG, hl, hm, hc⟩
  · exact .inl ⟨h1, by rw [h2]; simp⟩
  · exact .inr ⟨G, o, e, hG, Nat.le_trans (by rw [List.length_take]; omega) hl, hm, fun j b hj => hc j b (by
      have hlt := (List.getElem?_eq_some_iff.1 hj).1
      rw [List.length_take] at hlt
      rw [List.getElem?_take_of_lt (by omega)] at hj
      exact hj)⟩
theorem byts_some {w : World} {B c : Nat} {a : Option Addr} {bs : List UInt8} (h : Byts w B a c bs) (hp : 0 < bs.length) : ∃ G o, a = some ⟨G, o, none⟩ ∧ bs.length ≤ c ∧ c ≤ maxLen := by
  rcases h with ⟨_, h2⟩ | ⟨G, o, e, hG, hl, hm, hc⟩
  · rw [h2] at hp
    simp at hp
  · exact ⟨G, o, e, hl, hm⟩
theorem ParV.none_ {lo : Nat} {w' : World} {v : Value} (h : ParV lo none w' v .i64) : v = .tuple #[.slice none 0 0, .int .i64 10] := h

set_option maxRecDepth 100000 in
set_option maxHeartbeats 8000000 in
theorem cuts_tail (ps : List Ins) (n : Nat) (x : UInt8) (a : Option Addr) (c : Nat) (w : World) (hp : PV w a ps) (hn : n < 18446744073709551616) (hE : Env w) :
    Calls Tryd.prog 6 #[.slice a ps.length c, .int .u64 (n : Int), .int .u8 (x.toNat : Int)] w fun e w' => e = .returned (.bool true) ∧ Below w.heap.size w w' := by
  have L1 : ∀ W, Calls Tryd.prog 7 #[.slice a ps.length c] W fun e w' => e = .returned (.bool (decide (ps.length ≤ 80))) ∧ Below W.heap.size W w' := fun W => (light_any (ps := ps) (a := a) c W).mono (fun e w' h => ⟨h.1, by rw [h.2]; exact Below.refl _ _⟩)
  have HL := fun W (hW : Below w.heap.size w W) => lives_any (hE.on hW)
  have HW := fun W (hW : Below w.heap.size w W) => whole_any c (hp.below hW) (hE.on hW).tab
  have b0 : Below w.heap.size w w := Below.refl _ _
  by_cases hlp : ps.length ≤ 80
  · simp only [hlp, decide_true] at L1
    cases hw : wholeB ps with
    | false =>
      rw [hw] at HW
      clear hp hE hlp hw
      generalize ps.length = m at *
      go_enter Tryd.func6, Tryd.ntmps6
      go_wp2_with (first
        | (go_at_call 7; (with_reducible refine (L1 _).mono ?_); rintro e w1 ⟨rfl, hb1⟩)
        | (go_at_call 17; (with_reducible refine (HW _ hb1).mono ?_); rintro e w2 ⟨rfl, hb2⟩; have b2 := hb1.trans (hb2.mono hb1.size))
        | (go_at_call 8; (with_reducible refine (HL _ b2).mono ?_); rintro e w9 ⟨rfl, q9⟩))
      go_ret
      exact ⟨rfl, b2.trans (q9.mono b2.size)⟩
    | true =>
      rw [hw] at HW
      have HB := fun W (hW : Below w.heap.size w W) => bytes_any c (hp.below hW) (hE.on hW).tab
      have eB : bytesA ps = bytesL ps := by unfold bytesA; rw [hw]; rfl
      rw [eB] at HB
      have hlen := bytesL_len ps
      have h64 := (wholeB_iff.1 hw).1
      have hpos : 0 < (bytesL ps).length := by
        unfold bytesL
        rw [List.length_append]
        have := numF_pos 10 ps.length
        unfold numL
        omega
      have hcut := fun k (hk : k < (bytesL ps).length) => Hid.mk (cut_none hw hk)
      have hmore := Hid.mk (more_none hw x)
      have HP := fun (W : World) (hW : Below w.heap.size w W) (B : Nat) (a2 : Option Addr) (c2 : Nat) (bs : List UInt8) (hb : Byts W B a2 c2 bs) (hl : bs.length ≤ 100000) => parse_any hb hl (hE.on hW).tab
      obtain ⟨L, hL⟩ : ∃ L, (bytesL ps).length = L := ⟨_, rfl⟩
      have HL2 := Hid.mk hL
      rw [hL] at hlen hpos hcut
      have hkl : n % L < L := Nat.mod_lt _ hpos
      have hrem : (n : Int) % (L : Int) = ((n % L : Nat) : Int) := by omega
      have hremt : Int.tmod (n : Int) (L : Int) = ((n % L : Nat) : Int) := by rw [Int.tmod_eq_emod_of_nonneg (by omega)]; omega
      have hL0 : (L : Int) ≠ 0 := by omega
      have hLw : IntKind.u64.wrap (L : Int) = (L : Int) := by rw [IntKind.wrap_u64]; omega
      clear hp hE hlp hw eB hL
      generalize bytesL ps = bs at *
      generalize ps.length = m at *
      obtain ⟨k, hk⟩ : ∃ k, n % L = k := ⟨_, rfl⟩
      rw [hk] at hkl hrem hremt
      have hkw : wrap64 (k : Int) = (k : Int) := by unfold wrap64; omega
      have htk : (bs.take k).length = k := by rw [List.length_take, HL2.out]; omega
      have hL1 : (L : Int) ≤ 5000 := by omega
      have Hn := Hid.mk hn
      have Hrem := Hid.mk hk
      clear hn hk
      go_enter Tryd.func6, Tryd.ntmps6
      go_wp2_with (first
        | (go_at_call 7; (with_reducible refine (L1 _).mono ?_); rintro e w1 ⟨rfl, hb1⟩)
        | (go_at_call 17; (with_reducible refine (HW _ hb1).mono ?_); rintro e w2 ⟨rfl, hb2⟩; have b2 := hb1.trans (hb2.mono hb1.size))
        | (go_at_call 23; (with_reducible refine (HB _ b2).mono ?_); rintro e w3 ⟨⟨v3, rfl, ho3⟩, hb3⟩; obtain ⟨va, vc, ev3, hy3⟩ := own_sl ho3 HL2.out; subst ev3; have b3 := b2.trans (hb3.mono b2.size); obtain ⟨G, o, ea, hle, hmx⟩ := byts_some hy3 (by rw [HL2.out]; exact hpos); subst ea; rw [HL2.out] at hle; have hkc : (k : Int) ≤ (vc : Int) := by omega
           have hvc0 : ¬ vc = 0 := by omega
           have HC := HP w3 b3 _ _ _ _ (byts_take hy3 k) (by omega)
           rw [htk] at HC)
        | (go_at_call 21; first
            | ((with_reducible refine HC.mono ?_); rintro e w4 ⟨o4, v4, hr4, rfl, hv4, hb4⟩; obtain rfl := res_none (hcut k hkl).out hr4; have ev4 := hv4.none_; subst ev4; have b4 := b3.trans (hb4.mono b3.size); have hy4 := (hy3.up (C := w4.heap.size) hb4.size).but (S := []) (.of_below hb4) (by simp); have hyA := hy4.but (S := []) ((But.refl [] w4).alloc (.cells #[] 5)) (by simp))
            | ((with_reducible refine HC2.mono ?_); rintro e w7 ⟨o7, v7, hr7, rfl, hv7, hb7⟩; obtain rfl := res_none hmore.out hr7; have ev7 := hv7.none_; subst ev7; have b7 := b6.trans (hb7.mono b6.size)))
        | (at_builtin; first
            | (refine wpList_bown rfl _ _ rfl w4.heap.size _ [] rfl (own_nob w4) w4.heap.size _ L vc bs rfl HL2.out hyA (by simp; omega) (by simp) ?_; intro v5 w5 ho5 hg5; simp only [List.nil_append] at ho5; have b5 := (b4.alloc b4.size (.cells #[] 5)).trans (hg5.mono b4.size); have hz5 := hg5.size; simp only [World.size_alloc] at hz5; obtain ⟨a5, c5, ev5, _⟩ := own_sl ho5 HL2.out; subst ev5)
            | (refine wpList_bown rfl _ _ rfl w4.heap.size _ bs rfl (ho5.alloc _) (w5.heap.size + 1) _ 1 1 [x] rfl rfl (byts_one w5 x rfl) (by rw [HL2.out]; omega) (by simp; omega) ?_; intro v6 w6 ho6 hg6
               have b6 := (b5.alloc b5.size (.cells #[.int .u8 (x.toNat : Int)] 5)).trans (hg6.mono b4.size)
               obtain ⟨a6, c6, ev6, hy6⟩ := own_sl (n := L + 1) ho6 (by rw [List.length_append, HL2.out]; rfl)
               subst ev6
               have HC2 := HP w6 b6 _ _ _ _ hy6 (by rw [List.length_append, HL2.out]; simp; omega)
               rw [show (bs ++ [x]).length = L + 1 by rw [List.length_append, HL2.out]; rfl] at HC2))
        | (go_at_call 8; (with_reducible refine (HL _ b7).mono ?_); rintro e w9 ⟨rfl, q9⟩))
      go_ret
      exact ⟨rfl, b7.trans (q9.mono b7.size)⟩
  · simp only [hlp, decide_false] at L1
    clear hp hE hlp HW
    generalize ps.length = m at *
    go_enter Tryd.func6, Tryd.ntmps6
    go_wp2_with (first
      | (go_at_call 7; (with_reducible refine (L1 _).mono ?_); rintro e w1 ⟨rfl, hb1⟩)
      | (go_at_call 8; (with_reducible refine (HL _ hb1).mono ?_); rintro e w9 ⟨rfl, q9⟩))
    go_ret
    exact ⟨rfl, hb1.trans (q9.mono hb1.size)⟩

end Go.Proofs.YtbcdjpafdmgbmaaDoor
