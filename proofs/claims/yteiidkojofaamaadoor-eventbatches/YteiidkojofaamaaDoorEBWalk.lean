/- EventBatches. -/
import Derived.Test.YteiidkojofaamaaDoorEBatch
import Derived.Test.YteiidkojofaamaaDoorESame
import Derived.Test.YteiidkojofaamaaDoorELives
namespace Go.Proofs.YteiidkojofaamaaDoor
open Go Go.RowKit

theorem EV.put {w w' : World} {a : Option Addr} {xs : List Ev} (h : EV w a xs) (hk : ∀ b o, a = some ⟨b, o, none⟩ → w'.heap[b]? = w.heap[b]?) : EV w' a xs := fun j hj => by
  obtain ⟨b, o, e, h0⟩ := h j hj
  refine ⟨b, o, e, fun i v hv => ?_⟩
  rw [World.cell?_of_block (hk b o e)]
  exact h0 i v hv
theorem EV.lt {w : World} {b o : Nat} {xs : List Ev} (h : EV w (some ⟨b, o, none⟩) xs) (h0 : 0 < xs.length) : b < w.heap.size := by
  obtain ⟨b1, o1, e, h1⟩ := h 0 h0
  cases e
  exact World.block_lt_of_cell? w _ (h1 0 _ rfl)
def slN : Value → Nat
  | .slice _ n _ => n
  | _ => 0
/-- How far batches have come: those told so far, and the rest. -/
structure BS (w W : World) (xs : List Ev) (k : Nat) (v6 : Value) (a7 : Option Addr) (c7 : Nat) : Prop where
  le : k ≤ xs.length
  all : OwE W w.heap.size v6 (xs.take k)
  rest : EV W a7 (xs.drop k)
  cap : xs.length - k ≤ c7
  ne : ∀ b o, a7 = some ⟨b, o, none⟩ → k < xs.length → v6.ownBlock ≠ some b
  bel : Below w.heap.size w W
theorem take_add (xs : List Ev) (k m : Nat) : xs.take k ++ (xs.drop k).take m = xs.take (k + m) := by
  rw [List.take_add]
theorem fst_pre {n : Nat} {ys : List Ev} {m j : Nat} (h : Cnt n ys m) (hj : j + 1 < m) : (ev ys j).kd ≠ 2 := by
  have := h.pre j hj
  simpa [preB] using this

/-- A batch more. -/
theorem bs_step {w wr w1 w2 w9 : World} {xs : List Ev} {L k m c2 c6 c7 : Nat} {a2 a6 a7 : Option Addr} {v6 v9 : Value} (hL : xs.length = L) (hS : BS w wr xs k v6 a7 c7) (hm : k + (m + 1) ≤ L) (B1 : Below w.heap.size w w1) (hb2 : Below w1.heap.size w1 w2)
    (h6 : OwE w1 w.heap.size (.slice a6 k c6) (xs.take k)) (he2 : EV w1 a2 ((xs.drop k).drop (m + 1))) (hc2 : ((xs.drop k).drop (m + 1)).length ≤ c2) (hD : ∀ b' o', a2 = some ⟨b', o', none⟩ → (Value.slice a6 k c6).ownBlock ≠ some b' ∧ b' < w1.heap.size)
    (ho9 : OwE w9 w.heap.size v9 (xs.take k ++ (xs.drop k).take (m + 1))) (hg9 : w2.grownBy w9 (Value.slice a6 k c6).ownBlock) (hs9 : v9.ownBlock = (Value.slice a6 k c6).ownBlock ∨ v9.ownBlock = some w2.heap.size) : BS w w9 xs (k + (m + 1)) v9 a2 c2 := by
  have hk := hS.le
  rw [List.drop_drop] at he2 hc2
  rw [take_add] at ho9
  refine ⟨by omega, ho9, (he2.below hb2).put (fun b' o' e => ?_), by rw [List.length_drop] at hc2; exact hc2, fun b' o' e _ e9 => ?_, ?_⟩
  · obtain ⟨h1, h2⟩ := hD b' o' e
    exact hg9.block b' (Nat.lt_of_lt_of_le h2 hb2.size) (fun h => h1 h.symm)
  · obtain ⟨h1, h2⟩ := hD b' o' e
    rcases hs9 with h | h
    · exact h1 (h.symm.trans e9)
    · rw [h] at e9
      cases e9
      exact absurd h2 (Nat.not_lt.2 hb2.size)
  · have hb := B1.trans (hb2.mono B1.size)
    exact below_grown hb hg9 (h6.below hb2) hb.size
set_option maxHeartbeats 4000000 in
set_option maxRecDepth 100000 in
theorem batches_some {w : World} {a : Option Addr} {xs : List Ev} (c : Nat) (q : Int) (hx : EV w a xs) (hc : xs.length ≤ c) (hT : Tab w) (hq0 : 0 ≤ q) (hq : q ≤ 255) :
    Calls Tryd.prog 7 #[.slice a xs.length c, .int .u8 q] w fun r w' => r = .returned (.bool true) ∧ Below w.heap.size w w' := by
  have HL : ∀ W, Below w.heap.size w W → Calls Tryd.prog 17 #[] W fun r w' => r = .returned (.bool true) ∧ Below W.heap.size W w' := fun W h => lives_any (hT.on h)
  by_cases h60 : xs.length ≤ 60
  · obtain ⟨L, hL⟩ : ∃ L, Hid (xs.length = L) := ⟨_, rfl⟩
    have hL60 : (L : Int) ≤ 60 := by have := hL.out; omega
    have HS0 : BS w w xs 0 (.slice none 0 0) a c := ⟨Nat.zero_le _, by simpa using OwE.nil w w.heap.size, by simpa using hx, by omega, fun b o _ _ => by simp [Value.ownBlock], Below.refl _ _⟩
    obtain ⟨n, hn⟩ : ∃ n : Nat, Hid ((n : Int) = 1 + q % 10) := ⟨(1 + q % 10).toNat, Hid.mk (by omega)⟩
    have hn1 : 1 ≤ n ∧ n ≤ 10 := by have := hn.out; omega
    obtain ⟨hn1, hn10⟩ := hn1
    have hqm : 0 ≤ q % 10 ∧ q % 10 ≤ 9 := by omega
    obtain ⟨hqm0, hqm9⟩ := hqm
    rw [hL.out]
    clear h60
    go_enter Tryd.func7, Tryd.ntmps7
    go_wp2_with fail
    rw [← hn.out]
    have HN : Hid (n ≤ 10 ∧ 1 ≤ n) := ⟨hn10, hn1⟩
    have hni : (n : Int) ≤ 10 := by omega
    have HX := Hid.mk hx
    clear hqm0 hqm9 hn hq0 hq hx hc
    go_loopw [6, 7, 8, 10] (fun v6 v7 _ _ wr => ∃ (k c7 : Nat) (a7 : Option Addr), v7 = .slice a7 (L - k) c7 ∧ BS w wr xs k v6 a7 c7) (fun _ v7 _ _ _ => slN v7)
    case atStart => exact ⟨0, c, a, by simp, HS0⟩
    case round =>
      obtain ⟨k, c7, a7, rfl, hS⟩ := hrel
      have hkl := hS.le
      rw [hL.out] at hkl
      by_cases hlt : k < L
      · have h0 : 0 < (xs.drop k).length := by rw [List.length_drop, hL.out]; omega
        obtain ⟨b, o, rfl, _⟩ := hS.rest 0 h0
        have hdl : (xs.drop k).length = L - k := by rw [List.length_drop, hL.out]
        have HB := batch_some c7 (n : Int) hS.rest (by omega) (by rw [hdl, ← hL.out]; exact hS.cap) h0
        rw [hdl] at HB
        have hm1 : (max (n : Int) 1).toNat = n := by omega
        rw [hm1] at HB
        have hpos : (0 : Int) < ((L - k : Nat) : Int) := by omega
        have HS := Hid.mk hS
        have HDL := Hid.mk hdl
        clear hS h0 hdl hm1
        go_upto_region 9 with (go_at_call 23; (with_reducible refine HB.mono ?_); rintro r w1 ⟨m, v1, v2, rfl, hcnt, hm0, ho1, ho2, hb1⟩)
        have hmL : k + m ≤ L := by have := hcnt.len; rw [HDL.out] at this; omega
        have hmn : (m : Int) ≤ (n : Int) := by have := hcnt.most; omega
        have hl1 : ((xs.drop k).take m).length = m := by rw [List.length_take, HDL.out]; omega
        have hl2 : ((xs.drop k).drop m).length = L - (k + m) := by rw [List.length_drop, HDL.out]; omega
        have hl6 : (xs.take k).length = k := by rw [List.length_take, hL.out]; omega
        have HCT := Hid.mk hcnt
        obtain ⟨m', rfl⟩ : ∃ m', m = m' + 1 := ⟨m - 1, by omega⟩
        have z1 : ((m' : Int) + 1 == 0) = false := by simp; omega
        have z2 : decide ((n : Int) < (m' : Int) + 1) = false := by simp; omega
        have z3 : decide (L < k) = false := by simp; omega
        have hm10 : (m' : Int) ≤ 9 := by omega
        have h6 := HS.out.all.below hb1
        obtain ⟨a1, c1, rfl, hc1, he1, hg1⟩ := ho1.sl
        obtain ⟨a2, c2, rfl, hc2, he2, hg2⟩ := ho2.sl
        obtain ⟨a6, c6, rfl, hc6, _, _⟩ := h6.sl
        have G1 : ∃ g, a1 = some ⟨g, 0, none⟩ := by
          rcases hg1 with ⟨_, h, _⟩ | ⟨g, h, _⟩
          · rw [hl1] at h; cases h
          · exact ⟨g, h⟩
        obtain ⟨g1, rfl⟩ := G1
        rw [hl1] at hc1
        rw [hl6] at h6
        have HD : Hid (∀ b' o', a2 = some ⟨b', o', none⟩ → (Value.slice a6 k c6).ownBlock ≠ some b' ∧ b' < w1.heap.size) := Hid.mk (fun b' o' e => by
          have hown := HS.out.all
          rw [hl6] at hown
          rcases hg2 with ⟨e2, _, _⟩ | ⟨g, e2, hge, hlt⟩
          · rw [e2] at e; cases e
          · rw [e2] at e
            cases e
            exact ⟨fun e => by have := (hown.lt e).2; omega, hlt⟩)
        have B1 : Below w.heap.size w w1 := HS.out.bel.trans (hb1.mono HS.out.bel.size)
        have H6 := Hid.mk h6
        have HL1 := Hid.mk hl1
        have HE1 := Hid.mk he1
        have HC2 := Hid.mk hc2
        rw [hl1, hl2, hl6]
        have HE2 := Hid.mk he2
        clear ho1 ho2 h6 hg1 hg2 he1 he2 hcnt hl1 hl2 hl6 HB
        have hmc : (m' : Int) ≤ (c1 : Int) := by omega
        have HC6 := Hid.mk hc6
        clear hc1 hc2 hc6 hmn
        go_wp2_with fail
        go_loopw [51, 10] (fun v51 _ wr2 => ∃ j : Nat, j ≤ m' ∧ v51 = .int .i64 j ∧ Below w1.heap.size w1 wr2) (fun v51 _ _ => 10 - (intOf v51).toNat)
        case atStart => exact ⟨0, Nat.zero_le _, rfl, Below.refl _ _⟩
        case round =>
          obtain ⟨j, hj, rfl, hb2⟩ := hrel
          by_cases hjm : j < m'
          · have hjm' : (j : Int) < (m' : Int) := by omega
            obtain ⟨b3, o3, e3, hcl⟩ := (HE1.out.below hb2) j (by rw [HL1.out]; omega)
            cases e3
            rw [ev_take (by omega)] at hcl
            have hkd : (ev (xs.drop k) j).kd ≠ 2 := fst_pre HCT.out (by omega)
            obtain ⟨c0, c1, c2, c3, c4, c5, c6, c7, c8, c9, c10, c11, c12, c13, c14⟩ := hcl.cells
            clear hcl
            generalize ev (xs.drop k) j = x at *
            have hkd' : (x.kd == 2) = false := by simpa using hkd
            clear hkd
            simp only [Nat.zero_add] at c0 c1 c2 c3 c4 c5 c6 c7 c8 c9 c10 c11 c12 c13 c14
            go_wp2_with fail
            go_roundw
            case rel => exact ⟨j + 1, by omega, by simp, hb2.alloc hb2.size _⟩
            case measure =>
              simp [intOf]
              omega
          · obtain rfl : j = m' := by omega
            by_cases hcA : n ≤ j + 1
            · have z5 : decide ((j : Int) + 1 < (n : Int)) = false := by simp; omega
              go_wp2_with (at_builtin; refine wpList_appE rfl _ _ rfl w.heap.size _ (xs.take k) rfl (H6.out.below hb2) _ _ _ ((xs.drop k).take (j + 1)) rfl HL1.out (HE1.out.below hb2) (by rw [List.length_take, hL.out]; omega) (Nat.le_trans B1.size hb2.size) ?_; intro v9 w9 ho9 hg9 hs9)
              go_roundw
              case rel => exact ⟨k + (j + 1), c2, a2, rfl, bs_step hL.out HS.out hmL B1 hb2 H6.out HE2.out HC2.out HD.out ho9 hg9 hs9⟩
              case measure =>
                simp [slN]
                omega
            · by_cases hcB : L = k + (j + 1)
              · have z5 : (j : Int) + 1 < (n : Int) := by omega
                have z6 : ((L - (k + (j + 1)) : Nat) : Int) ≤ 0 := by omega
                clear hcB
                go_wp2_with (at_builtin; refine wpList_appE rfl _ _ rfl w.heap.size _ (xs.take k) rfl (H6.out.below hb2) _ _ _ ((xs.drop k).take (j + 1)) rfl HL1.out (HE1.out.below hb2) (by rw [List.length_take, hL.out]; omega) (Nat.le_trans B1.size hb2.size) ?_; intro v9 w9 ho9 hg9 hs9)
                go_roundw
                case rel => exact ⟨k + (j + 1), c2, a2, rfl, bs_step hL.out HS.out hmL B1 hb2 H6.out HE2.out HC2.out HD.out ho9 hg9 hs9⟩
                case measure =>
                  simp [slN]
                  omega
              · have z5 : (j : Int) + 1 < (n : Int) := by omega
                have z6 : (0 : Int) < ((L - (k + (j + 1)) : Nat) : Int) := by omega
                have hp := HCT.out.stop.resolve_left (by rw [HDL.out]; omega) |>.resolve_left (by omega) |>.2
                rw [show j + 1 - 1 = j by omega] at hp
                obtain ⟨b3, o3, e3, hcl⟩ := (HE1.out.below hb2) j (by rw [HL1.out]; omega)
                cases e3
                rw [ev_take (by omega)] at hcl
                have c0 := hcl 0 _ rfl
                have hp2 : (ev (xs.drop k) j).kd = 2 := by simpa [preB] using hp
                rw [hp2] at c0
                simp only [Nat.zero_add, Nat.add_zero] at c0
                clear hcl hp hp2
                go_wp2_with (at_builtin; refine wpList_appE rfl _ _ rfl w.heap.size _ (xs.take k) rfl (H6.out.below hb2) _ _ _ ((xs.drop k).take (j + 1)) rfl HL1.out (HE1.out.below hb2) (by rw [List.length_take, hL.out]; omega) (Nat.le_trans B1.size hb2.size) ?_; intro v9 w9 ho9 hg9 hs9)
                go_roundw
                case rel => exact ⟨k + (j + 1), c2, a2, rfl, bs_step hL.out HS.out hmL B1 hb2 H6.out HE2.out HC2.out HD.out ho9 hg9 hs9⟩
                case measure =>
                  simp [slN]
                  omega
      · obtain rfl : k = L := by omega
        have hz : k - k = 0 := by omega
        rw [hz]
        have ha := hS.all
        rw [List.take_of_length_le (by rw [hL.out]; exact Nat.le_refl _)] at ha
        obtain ⟨a6, c6, rfl, _, he6, _⟩ := ha.sl
        have HSM := rsame_any c6 c he6 (HX.out.below hS.bel) (by rw [hL.out]; omega)
        rw [sameB_refl, hL.out] at HSM
        rw [hL.out]
        have hb := hS.bel
        clear hS ha he6 hz
        go_wp2_with (first | (go_at_call 22; (with_reducible refine HSM.mono ?_); rintro r w5 ⟨rfl, hb5⟩; have b5 := hb.trans (hb5.mono hb.size)) | (go_at_call 17; (with_reducible refine (HL _ b5).mono ?_); rintro r w6 ⟨rfl, hb6⟩))
        go_ret
        exact ⟨rfl, b5.trans (hb6.mono b5.size)⟩
  · have h60' : (60 : Int) < (xs.length : Int) := by omega
    have b0 : Below w.heap.size w w := Below.refl _ _
    clear h60 hx hc hq0 hq
    generalize xs.length = L at *
    go_enter Tryd.func7, Tryd.ntmps7
    go_wp2_with (go_at_call 17; (with_reducible refine (HL _ b0).mono ?_); rintro r w6 ⟨rfl, hb6⟩)
    go_ret
    exact ⟨rfl, hb6⟩
end Go.Proofs.YteiidkojofaamaaDoor
