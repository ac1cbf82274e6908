/- The reference's puts: Num, Int, Text, Flag, Ints. -/
/- The reference's Bytes. -/
import Derived.Test.YtbcdjpafdmgbmaaDoorJ10TextsT
import Derived.Test.YtbcdjpafdmgbmaaDoorJ16TextsT
import Derived.Test.YtbcdjpafdmgbmaaDoorJ20TextsT
import Derived.Test.YtbcdjpafdmgbmaaDoorJ17TextsT
namespace Go.Proofs.YtbcdjpafdmgbmaaDoor
open Go.RowKit

theorem low7 {z : Int} (h0 : 0 ≤ z) (h1 : z < 18446744073709551616) : bits BinOp.or IntKind.u64 (bits BinOp.and IntKind.u64 z 127) 128 = z % 128 + 128 := by
  obtain ⟨m, rfl⟩ := Int.eq_ofNat_of_zero_le h0
  have e1 : bits BinOp.and IntKind.u64 (m : Int) 127 = ((m % 128 : Nat) : Int) := by
    have := bits_and_u64_nat m 127 (by omega) (by omega)
    have e : m &&& 127 = m % 128 := Nat.and_two_pow_sub_one_eq_mod m 7
    rw [e] at this
    exact this
  rw [e1]
  have e2 := bits_or_u64_nat (m % 128) 128 (by omega) (by omega)
  have e3 : m % 128 ||| 128 = m % 128 + 128 := by
    have := Nat.two_pow_add_eq_or_of_lt (b := m % 128) (i := 7) (by omega) 1
    rw [show 2 ^ 7 * 1 = 128 from rfl] at this
    rw [Nat.or_comm]
    omega
  rw [e3] at e2
  rw [show ((128 : Nat) : Int) = 128 from rfl] at e2
  rw [e2]
  omega

section
variable {B : Nat} {a : Option Addr} {c : Nat} {bs : List UInt8} {w : World}

set_option maxHeartbeats 1000000 in
theorem rnum (h : Byts w B a c bs) (n : Nat) (hn : n < 2 ^ 64) (hbs : bs.length ≤ 800000) :
    Calls Tryd.prog 45 #[.slice a bs.length c, .int .u64 (n : Int)] w fun e w' => ∃ v', e = .returned v' ∧ Own w' w.heap.size v' (bs ++ numL n) ∧ Below w.heap.size w w' := by
  have hn0 := own_nob w
  have h' : Byts (w.alloc (.cells #[] 5)) (max B 0) a c bs := (h.up (by omega)).but (S := []) ((But.refl [] w).alloc _) (by simp)
  have hb0 : Below w.heap.size w (w.alloc (.cells #[] 5)) := (Below.refl _ w).alloc (Nat.le_refl _) _
  go_enter Tryd.func45, Tryd.ntmps45
  go_wp2_with (at_builtin; refine wpList_bown rfl _ _ rfl w.heap.size _ [] rfl hn0 _ _ _ _ bs rfl rfl h' (by simp; omega) (by simp) ?_; intro v3 w3 ho3 hg3)
  rw [List.nil_append] at ho3
  go_loopw [5, 1] (fun u q wr => ∃ (z : Int) (m k : Nat) (pre : List UInt8), q = .int .u64 z ∧ Hid ((m : Int) = z) ∧ 0 ≤ z ∧ z < 18446744073709551616 ∧ Hid (m < 128 ^ (k + 1)) ∧ Hid (numL n = pre ++ numF k m) ∧ Hid (pre.length + k ≤ 10) ∧ Own wr w.heap.size u (bs ++ pre) ∧ Below w.heap.size w wr) (fun _ q _ => (intOf q).toNat)
  case atStart => exact ⟨n, n, 10, [], rfl, Hid.mk rfl, by omega, by omega, Hid.mk (by omega), Hid.mk rfl, Hid.mk (by simp), by simpa using ho3, hb0.trans hg3⟩
  case round =>
    obtain ⟨z, m, k, pre, rfl, HZ, k0, k1, hk, hp, hpl, hb, hB⟩ := hrel
    have hsz := hB.size
    clear h hn h' hn0 ho3 hg3
    by_cases hlt : z < 128
    · have hb8 : z = ((UInt8.ofNat m).toNat : Int) := by have := HZ.out; rw [u8_small (by omega)]; omega
      have H8 := Hid.mk hb8
      clear hb8
      go_wp2_with (first
            | (at_builtin; refine wpList_bown rfl _ _ rfl w.heap.size _ (bs ++ pre) rfl (hb.alloc _) _ _ _ _ [UInt8.ofNat m] rfl rfl (byts_one _ _ H8.out) (by have := hpl.out; simp; omega) (by simp; omega) ?_; intro v3 w3 ho3 hg3))
      go_ret
      refine ⟨_, rfl, ?_, (hB.alloc hsz _).trans hg3⟩
      rw [hp.out, numF_small (by have := HZ.out; omega), ← List.append_assoc]
      exact ho3
    · have hb8 : z % 128 + 128 = ((UInt8.ofNat (m % 128 + 128)).toNat : Int) := by have := HZ.out; rw [u8_small (by omega)]; omega
      have hor := low7 k0 k1
      have hlo : 0 ≤ z % 128 + 128 := by omega
      have hhi : z % 128 + 128 < 256 := by omega
      have H8 := Hid.mk hb8
      clear hb8
      go_wp2_with (first
            | (at_builtin; refine wpList_bown rfl _ _ rfl w.heap.size _ (bs ++ pre) rfl (hb.alloc _) _ _ _ _ [UInt8.ofNat (m % 128 + 128)] rfl rfl (byts_one _ _ H8.out) (by have := hpl.out; simp; omega) (by simp; omega) ?_; intro v3 w3 ho3 hg3))
      go_roundw
      case rel =>
        have hz := HZ.out
        have hk' := hk.out
        obtain ⟨k', rfl⟩ : ∃ k', k = k' + 1 := by
          cases k with
          | zero => simp at hk'; omega
          | succ k' => exact ⟨k', rfl⟩
        refine ⟨_, m / 128, k', pre ++ [UInt8.ofNat (m % 128 + 128)], rfl, Hid.mk (by omega), by omega, by omega, Hid.mk (Nat.div_lt_of_lt_mul (by rw [Nat.pow_succ] at hk'; omega)), Hid.mk ?_, Hid.mk (by have := hpl.out; simp; omega), (by rw [← List.append_assoc]; exact ho3), (hB.alloc hsz _).trans hg3⟩
        rw [hp.out, numF_great (by omega), List.append_assoc]
        rfl
      case measure =>
        simp [intOf]
        omega

set_option maxHeartbeats 400000 in
theorem zig_any (i : Int) (w : World) (hi : -9223372036854775808 ≤ i ∧ i ≤ 9223372036854775807) :
    Calls Tryd.prog 74 #[.int .i64 i] w fun e w' => e = .returned (.int .u64 ((zigN i : Nat) : Int)) ∧ w' = w := by
  by_cases h0 : i < 0
  · have hz : ((zigN i : Nat) : Int) = 2 * (-(i + 1)) + 1 := by unfold zigN; rw [if_pos h0]; omega
    have k1 : 0 ≤ -(i + 1) := by omega
    have k2 : -(i + 1) ≤ 9223372036854775807 := by omega
    have k3 : ¬ 0 ≤ i := by omega
    rw [hz]
    clear hz
    go_enter Tryd.func74, Tryd.ntmps74
    go_wp2_with fail
    go_ret
    exact ⟨rfl, rfl⟩
  · have hz : ((zigN i : Nat) : Int) = 2 * i := by unfold zigN; rw [if_neg h0]; omega
    have k3 : 0 ≤ i := by omega
    rw [hz]
    clear hz
    go_enter Tryd.func74, Tryd.ntmps74
    go_wp2_with fail
    go_ret
    exact ⟨rfl, rfl⟩

set_option maxHeartbeats 400000 in
theorem rint (h : Byts w B a c bs) (i : Int) (hi : -9223372036854775808 ≤ i ∧ i ≤ 9223372036854775807) (hbs : bs.length ≤ 800000) :
    Calls Tryd.prog 47 #[.slice a bs.length c, .int .i64 i] w fun e w' => ∃ v', e = .returned v' ∧ Own w' w.heap.size v' (bs ++ numL (zigN i)) ∧ Below w.heap.size w w' := by
  have h1 := zig_any i w hi
  have h2 := rnum h (zigN i) (zigN_lt hi.1 hi.2) hbs
  go_enter Tryd.func47, Tryd.ntmps47
  go_wp2_with (first | (go_at_call 74; refine h1.mono ?_; rintro e w' ⟨rfl, rfl⟩) | (go_at_call 45; refine h2.mono ?_; rintro e w' ⟨v', rfl, ho, hb⟩))
  go_ret
  exact ⟨_, rfl, ho, hb⟩

end
end Go.Proofs.YtbcdjpafdmgbmaaDoor
namespace Go.Proofs.YtbcdjpafdmgbmaaDoor
open Go.RowKit Go.Shelf

theorem intsF_take {us : List Int} {k : Nat} {u : Int} (h : us[k]? = some u) : intsF (us.take (k + 1)) = intsF (us.take k) ++ numL (zigN u) := by
  rw [List.take_add_one, h, intsF_app]
  simp [intsF]

theorem row_get {w : World} {base k c : Nat} {a : Option Addr} {q : List Int} (h : RowI w base (.slice a k c) q) : ∀ j x, q[j]? = some x → ∃ g, a = some ⟨g, 0, none⟩ ∧ w.cell? ⟨g, j, none⟩ = some (.int .i64 x) := by
  obtain ⟨a', c', e, _, _, _, hc⟩ := h.shape
  cases e
  exact hc
theorem row_sh {w : World} {base k : Nat} {v : Value} {q : List Int} (h : RowI w base v q) (hk : q.length = k) : ∃ a c, v = .slice a k c ∧ True := by
  obtain ⟨a, c, e⟩ := row_sl h hk
  exact ⟨a, c, e, trivial⟩

set_option maxRecDepth 100000 in
set_option maxHeartbeats 4000000 in
theorem rbytes_in {ps : List Ins} {a : Option Addr} (c : Nat) {w : World} (hp : PV w a ps) (hw : wholeB ps = true) :
    Calls Tryd.prog 24 #[.slice a ps.length c] w fun e w' => (∃ v, e = .returned v ∧ Own w' w.heap.size v (bytesL ps)) ∧ Below w.heap.size w w' := by
  have HW := rwhole_any c hp
  rw [hw] at HW
  obtain ⟨h64, hall⟩ := wholeB_iff.1 hw
  obtain ⟨n, hn⟩ : ∃ n, ps.length = n := ⟨_, rfl⟩
  have hbl : Hid (bytesL ps = numL n ++ bytesP ps) := Hid.mk (by unfold bytesL; rw [hn])
  rw [hn] at HW h64 hall ⊢
  have HN : ∀ W, Calls Tryd.prog 45 #[.slice none 0 0, .int .u64 (n : Int)] W fun e w' => ∃ v', e = .returned v' ∧ Own w' W.heap.size v' (numL n) ∧ Below W.heap.size W w' := fun W => by
    have := rnum (w := W) (B := 0) (a := none) (c := 0) (bs := []) (.inl ⟨rfl, rfl⟩) n (by omega) (by simp)
    simpa using this
  have hwr : IntKind.u64.wrap (n : Int) = (n : Int) := by rw [IntKind.wrap_u64]; omega
  have Hn := Hid.mk hn
  clear hn hw
  go_enter Tryd.func24, Tryd.ntmps24
  go_wp2_with (first
    | (go_at_call 18; (with_reducible refine HW.mono ?_); rintro e w1 ⟨rfl, hb1⟩)
    | (go_at_call 45; (with_reducible refine (HN _).mono ?_); rintro e w2 ⟨v2, rfl, ho2, hb2⟩))
  have hbW := hb1.trans (hb2.mono hb1.size)
  have hoW := ho2.lower hb1.size
  clear HW HN hb1 hb2 ho2 hwr
  go_loopw [17, 3, 5, 7, 18, 19, 20, 21, 22, 23, 24, 25, 26, 27, 28, 29, 30, 31, 32, 33, 34, 35, 36, 37, 38] (fun p q _ _ _ _ _ _ _ _ _ _ _ _ _ _ _ _ _ _ _ _ _ _ _ wr => ∃ i : Nat, i ≤ n ∧ p = .int .i64 i ∧ Own wr w.heap.size q (numL n ++ bytesP (ps.take i)) ∧ Below w.heap.size w wr) (fun p _ _ _ _ _ _ _ _ _ _ _ _ _ _ _ _ _ _ _ _ _ _ _ _ _ => n - (intOf p).toNat)
  case atStart => exact ⟨0, by omega, rfl, by simpa [bytesP] using hoW, hbW⟩
  case round =>
    obtain ⟨i, hi, rfl, ho, hb⟩ := hrel
    clear hoW hbW
    by_cases hlt : i < n
    · have hi' : i < ps.length := by rw [Hn.out]; exact hlt
      obtain ⟨bq, o, ea, c0, c1, c2, c3⟩ := hp.below hb i hi'
      have hsn := Hid.mk (bytesP_snoc (ins_get hi'))
      have hg := hall i hlt
      have hlen : (numL n ++ bytesP (ps.take i)).length ≤ 11 + 34 * 64 := by
        have h1 := numL_len n
        have h2 := bytesP_len (ps.take i)
        rw [List.length_take] at h2
        rw [List.length_append]
        omega
      generalize hx : ins ps i = x at *
      have hl2 : (i : Int) < (n : Int) := by omega
      have hfin := Hid.mk (show numL n ++ bytesP (ps.take (i + 1)) = numL n ++ bytesP (ps.take i) ++ [UInt8.ofNat x.1.toNat] ++ intsF (usedL x) by rw [hsn.out]; simp [bytesI])
      clear hsn hx hi'
      generalize numL n ++ bytesP (ps.take i) = T at *
      obtain ⟨mT, hmT⟩ : ∃ m, T.length = m := ⟨_, rfl⟩
      obtain ⟨va, vc, ev, _⟩ := own_sl ho hmT
      have hop : opB x.1 = true := by unfold goodB at hg; simp only [Bool.and_eq_true] at hg; exact hg.1
      obtain ⟨k0, hk0, hk27⟩ := opB_nat hop
      have hwr : IntKind.u8.wrap x.1 = ((UInt8.ofNat k0).toNat : Int) := by
        rw [hk0, u8_small (by omega), IntKind.wrap_u8]
        omega
      have hbk := Hid.mk (show UInt8.ofNat x.1.toNat = UInt8.ofNat k0 by rw [hk0]; rfl)
      clear hk0 hk27
      generalize UInt8.ofNat k0 = ob at *
      have HU := rused_any x hop
      simp only [insC] at HU
      have hus : ∀ v ∈ usedL x, -9223372036854775808 ≤ v ∧ v ≤ 9223372036854775807 := fun v hv => by
        have := used_small h64 hg hv
        omega
      have hul : (usedL x).length ≤ 3 := by unfold usedL; rw [List.length_map]; exact usQ_len _
      rw [hbk.out] at hfin
      clear hop hg hbk
      generalize usedL x = us at *
      obtain ⟨mu, hmu⟩ : ∃ m, us.length = m := ⟨_, rfl⟩
      rw [hmu] at hul
      have Hmu := Hid.mk hmu
      clear hmu
      obtain ⟨x0, x1, x2, x3⟩ := x
      dsimp only at c0 c1 c2 c3 HU hwr
      have hby : Byts ((wr.alloc (.cells #[.int .i64 x0, .int .i64 x1, .int .i64 x2, .int .i64 x3] 49)).alloc (.cells #[.int .u8 (ob.toNat : Int)] 5)) (wr.heap.size + 1 + 1) (some ⟨wr.heap.size + 1, 0, none⟩) 1 [ob] := by
        have := byts_one (wr.alloc (.cells #[.int .i64 x0, .int .i64 x1, .int .i64 x2, .int .i64 x3] 49)) ob rfl
        rw [World.size_alloc] at this
        exact this
      have hbA : Below w.heap.size w ((wr.alloc (.cells #[.int .i64 x0, .int .i64 x1, .int .i64 x2, .int .i64 x3] 49)).alloc (.cells #[.int .u8 (ob.toNat : Int)] 5)) := (hb.alloc hb.size _).alloc (by have := hb.size; simp; omega) _
      have hoA := (ho.alloc (.cells #[.int .i64 x0, .int .i64 x1, .int .i64 x2, .int .i64 x3] 49)).alloc (.cells #[.int .u8 (ob.toNat : Int)] 5)
      subst ea
      subst ev
      have HmT := Hid.mk hmT
      have hmL : mT ≤ 11 + 34 * 64 := by rw [← hmT]; exact hlen
      clear hmT hlen
      have iA : Cel ((wr.alloc (.cells #[.int .i64 x0, .int .i64 x1, .int .i64 x2, .int .i64 x3] 49)).alloc (.cells #[.int .u8 (ob.toNat : Int)] 5)) wr.heap.size #[.int .i64 x0, .int .i64 x1, .int .i64 x2, .int .i64 x3] 49 := (Cel.new wr _ 49).put (Below.heap_alloc _ _ _ (by simp))
      go_wp2_with (first
        | (at_builtin; refine wpList_bat rfl _ _ rfl w.heap.size _ T rfl hoA (wr.heap.size + 1 + 1) _ 1 1 [ob] rfl rfl hby (by rw [HmT.out]; omega) (by have := hb.size; simp; omega) ?_; intro v4 w4 ho4 hg4 hw4; have i4 := iA.put (hg4.block _ (by simp; omega) (fun e => by have := (World.ownsRow.lt ho _ e.symm).2; omega)); have d0 := i4.cell (j := 0) (v := .int .i64 x0) rfl; have d1 := i4.cell (j := 1) (v := .int .i64 x1) rfl; have d2 := i4.cell (j := 2) (v := .int .i64 x2) rfl; have d3 := i4.cell (j := 3) (v := .int .i64 x3) rfl; have hb4 := below_grown hbA hg4 hoA hbA.size)
        | (go_at_call 46; (with_reducible refine (HU _).mono ?_); rintro e w5 ⟨v5, rfl, hr5, hb5⟩; obtain ⟨ua, uc, ev5, _⟩ := row_sh hr5 Hmu.out; subst ev5))
      have hb45 := hb4.trans (hb5.mono hb4.size)
      have ho5 := ho4.below hb5
      clear ho4 hb4 hb5 HU hby hbA hoA iA i4 d0 d1 d2 d3 hg4 hw4 ho hb c0 c1 c2 c3 hwr
      have hcells := row_get hr5
      go_loopw [30, 3, 7, 31, 32, 33, 34, 35, 36, 37] (fun p q _ _ _ _ _ _ _ _ wr => ∃ k : Nat, k ≤ mu ∧ p = .int .i64 k ∧ Own wr w.heap.size q (T ++ [ob] ++ intsF (us.take k)) ∧ Below w.heap.size w wr ∧ Below w5.heap.size w5 wr) (fun p _ _ _ _ _ _ _ _ _ _ => 3 - (intOf p).toNat)
      case atStart => exact ⟨0, by omega, rfl, by simpa [intsF] using ho5, hb45, Below.refl _ _⟩
      case round =>
        obtain ⟨k, hk, rfl, ho6, hb6, hb56⟩ := hrel
        by_cases hku : k < mu
        · obtain ⟨u, hu⟩ : ∃ u, us[k]? = some u := ⟨_, List.getElem?_eq_getElem (by rw [Hmu.out]; exact hku)⟩
          obtain ⟨g, ea, hcell⟩ := hcells k u hu
          have hcell2 := cell_on hb56 hcell
          have hus2 := hus u (List.mem_of_getElem? hu)
          have hnx := Hid.mk (intsF_take hu)
          have hlen : (T ++ [ob] ++ intsF (us.take k)).length ≤ 800000 := by
            have h1 := intsF_len (us.take k)
            rw [List.length_take] at h1
            rw [List.length_append, List.length_append, HmT.out]
            simp only [List.length_cons, List.length_nil]
            omega
          have hku2 : (k : Int) < (mu : Int) := by omega
          obtain ⟨mb, hmb⟩ : ∃ m, (T ++ [ob] ++ intsF (us.take k)).length = m := ⟨_, rfl⟩
          obtain ⟨va6, vc6, ev6, hby6⟩ := own_sl ho6 hmb
          have HI := rint hby6 u hus2 hlen
          rw [hmb] at HI
          subst ev6
          cases ea
          clear hu hcell hmb hby6 hlen hus2
          go_wp2_with (go_at_call 47; (with_reducible refine HI.mono ?_); rintro e w7 ⟨v7, rfl, ho7, hb7⟩)
          go_roundw
          case rel =>
            refine ⟨k + 1, by omega, by simp, ?_, hb6.trans (hb7.mono hb6.size), hb56.trans (hb7.mono hb56.size)⟩
            rw [hnx.out, ← List.append_assoc]
            exact ho7.lower hb6.size
          case measure =>
            simp [intOf]
            omega
        · obtain rfl : k = mu := by omega
          have eU : us.take k = us := List.take_of_length_le (by rw [Hmu.out]; exact Nat.le_refl _)
          rw [eU, ← hfin.out] at ho6
          go_wp2_with fail
          go_roundw
          case rel => exact ⟨i + 1, by omega, by simp, ho6, hb6⟩
          case measure =>
            simp [intOf]
            omega
    · obtain rfl : i = n := by omega
      have eT : numL i ++ bytesP (ps.take i) = bytesL ps := by rw [List.take_of_length_le (by rw [Hn.out]; exact Nat.le_refl _), hbl.out]
      rw [eT] at ho
      go_wp2_with fail
      go_ret
      exact ⟨⟨_, rfl, ho⟩, hb⟩

theorem rbytes_any {ps : List Ins} {a : Option Addr} (c : Nat) {w : World} (hp : PV w a ps) :
    Calls Tryd.prog 24 #[.slice a ps.length c] w fun e w' => (∃ v, e = .returned v ∧ Own w' w.heap.size v (bytesA ps)) ∧ Below w.heap.size w w' := by
  cases hw : wholeB ps
  · have HW := rwhole_any c hp
    rw [hw] at HW
    have e : bytesA ps = [] := by unfold bytesA; rw [hw]; rfl
    rw [e]
    go_enter Tryd.func24, Tryd.ntmps24
    go_wp2_with (go_at_call 18; (with_reducible refine HW.mono ?_); rintro e w1 ⟨rfl, hb1⟩)
    go_ret
    exact ⟨⟨_, rfl, World.ownsRow_nil _ _ _ _⟩, hb1⟩
  · have e : bytesA ps = bytesL ps := by unfold bytesA; rw [hw]; rfl
    rw [e]
    exact rbytes_in c hp hw

end Go.Proofs.YtbcdjpafdmgbmaaDoor
