/- The reference's puts: Num, Int, Text, Flag, Ints. -/
/- The reference's Bytes. -/
import Derived.Test.YteiidkojofaamaaDoorCPutL
import Derived.Test.YteiidkojofaamaaDoorRGd
import Derived.Test.YteiidkojofaamaaDoorEBytes
namespace Go.Proofs.YteiidkojofaamaaDoor
open Go.RowKit

theorem low7 {z : Int} (h0 : 0 ≤ z) (h1 : z < 18446744073709551616) : bits BinOp.or IntKind.u64 (bits BinOp.and IntKind.u64 z 127) 128 = z % 128 + 128 := by
  obtain ⟨m, rfl⟩ := Int.eq_ofNat_of_zero_le h0
  have e1 : bits BinOp.and IntKind.u64 (m : Int) 127 = ((m % 128 : Nat) : Int) := by
    have := bits_and_u64_nat m 127 (by omega) (by omega)
    have e : m &&& 127 = m % 128 := Nat.and_two_pow_sub_one_eq_mod m 7
    rw [e] at this
    exact this
  rw [e1]
  have e2 := bits_or_u64_nat (m % 128) 128 (by omega) (by omega)
  have e3 : m % 128 ||| 128 = m % 128 + 128 := by
    have := Nat.two_pow_add_eq_or_of_lt (b := m % 128) (i := 7) (by omega) 1
    rw [show 2 ^ 7 * 1 = 128 from rfl] at this
    rw [Nat.or_comm]
    omega
  rw [e3] at e2
  rw [show ((128 : Nat) : Int) = 128 from rfl] at e2
  rw [e2]
  omega

section
variable {B : Nat} {a : Option Addr} {c : Nat} {bs : List UInt8} {w : World}

set_option maxHeartbeats 1000000 in
theorem rnum (h : Byts w B a c bs) (n : Nat) (hn : n < 2 ^ 64) (hbs : bs.length ≤ 800000) :
    Calls Tryd.prog 39 #[.slice a bs.length c, .int .u64 (n : Int)] w fun e w' => ∃ v', e = .returned v' ∧ Own w' w.heap.size v' (bs ++ numL n) ∧ Below w.heap.size w w' := by
  have hn0 := own_nob w
  have h' : Byts (w.alloc (.cells #[] 5)) (max B 0) a c bs := (h.up (by omega)).but (S := []) ((But.refl [] w).alloc _) (by simp)
  have hb0 : Below w.heap.size w (w.alloc (.cells #[] 5)) := (Below.refl _ w).alloc (Nat.le_refl _) _
  go_enter Tryd.func39, Tryd.ntmps39
  go_wp2_with (at_builtin; refine wpList_bown rfl _ _ rfl w.heap.size _ [] rfl hn0 _ _ _ _ bs rfl rfl h' (by simp; omega) (by simp) ?_; intro v3 w3 ho3 hg3)
  rw [List.nil_append] at ho3
  go_loopw [5, 1] (fun u q wr => ∃ (z : Int) (m k : Nat) (pre : List UInt8), q = .int .u64 z ∧ Hid ((m : Int) = z) ∧ 0 ≤ z ∧ z < 18446744073709551616 ∧ Hid (m < 128 ^ (k + 1)) ∧ Hid (numL n = pre ++ numF k m) ∧ Hid (pre.length + k ≤ 10) ∧ Own wr w.heap.size u (bs ++ pre) ∧ Below w.heap.size w wr) (fun _ q _ => (intOf q).toNat)
  case atStart => exact ⟨n, n, 10, [], rfl, Hid.mk rfl, by omega, by omega, Hid.mk (by omega), Hid.mk rfl, Hid.mk (by simp), by simpa using ho3, hb0.trans hg3⟩
  case round =>
    obtain ⟨z, m, k, pre, rfl, HZ, k0, k1, hk, hp, hpl, hb, hB⟩ := hrel
    have hsz := hB.size
    clear h hn h' hn0 ho3 hg3
    by_cases hlt : z < 128
    · have hb8 : z = ((UInt8.ofNat m).toNat : Int) := by have := HZ.out; rw [u8_small (by omega)]; omega
      have H8 := Hid.mk hb8
      clear hb8
      go_wp2_with (first
            | (at_builtin; refine wpList_bown rfl _ _ rfl w.heap.size _ (bs ++ pre) rfl (hb.alloc _) _ _ _ _ [UInt8.ofNat m] rfl rfl (byts_one _ _ H8.out) (by have := hpl.out; simp; omega) (by simp; omega) ?_; intro v3 w3 ho3 hg3))
      go_ret
      refine ⟨_, rfl, ?_, (hB.alloc hsz _).trans hg3⟩
      rw [hp.out, numF_small (by have := HZ.out; omega), ← List.append_assoc]
      exact ho3
    · have hb8 : z % 128 + 128 = ((UInt8.ofNat (m % 128 + 128)).toNat : Int) := by have := HZ.out; rw [u8_small (by omega)]; omega
      have hor := low7 k0 k1
      have hlo : 0 ≤ z % 128 + 128 := by omega
      have hhi : z % 128 + 128 < 256 := by omega
      have H8 := Hid.mk hb8
      clear hb8
      go_wp2_with (first
            | (at_builtin; refine wpList_bown rfl _ _ rfl w.heap.size _ (bs ++ pre) rfl (hb.alloc _) _ _ _ _ [UInt8.ofNat (m % 128 + 128)] rfl rfl (byts_one _ _ H8.out) (by have := hpl.out; simp; omega) (by simp; omega) ?_; intro v3 w3 ho3 hg3))
      go_roundw
      case rel =>
        have hz := HZ.out
        have hk' := hk.out
        obtain ⟨k', rfl⟩ : ∃ k', k = k' + 1 := by
          cases k with
          | zero => simp at hk'; omega
          | succ k' => exact ⟨k', rfl⟩
        refine ⟨_, m / 128, k', pre ++ [UInt8.ofNat (m % 128 + 128)], rfl, Hid.mk (by omega), by omega, by omega, Hid.mk (Nat.div_lt_of_lt_mul (by rw [Nat.pow_succ] at hk'; omega)), Hid.mk ?_, Hid.mk (by have := hpl.out; simp; omega), (by rw [← List.append_assoc]; exact ho3), (hB.alloc hsz _).trans hg3⟩
        rw [hp.out, numF_great (by omega), List.append_assoc]
        rfl
      case measure =>
        simp [intOf]
        omega

set_option maxHeartbeats 400000 in
theorem zig_any (i : Int) (w : World) (hi : -9223372036854775808 ≤ i ∧ i ≤ 9223372036854775807) :
    Calls Tryd.prog 62 #[.int .i64 i] w fun e w' => e = .returned (.int .u64 ((zigN i : Nat) : Int)) ∧ w' = w := by
  by_cases h0 : i < 0
  · have hz : ((zigN i : Nat) : Int) = 2 * (-(i + 1)) + 1 := by unfold zigN; rw [if_pos h0]; omega
    have k1 : 0 ≤ -(i + 1) := by omega
    have k2 : -(i + 1) ≤ 9223372036854775807 := by omega
    have k3 : ¬ 0 ≤ i := by omega
    rw [hz]
    clear hz
    go_enter Tryd.func62, Tryd.ntmps62
    go_wp2_with fail
    go_ret
    exact ⟨rfl, rfl⟩
  · have hz : ((zigN i : Nat) : Int) = 2 * i := by unfold zigN; rw [if_neg h0]; omega
    have k3 : 0 ≤ i := by omega
    rw [hz]
    clear hz
    go_enter Tryd.func62, Tryd.ntmps62
    go_wp2_with fail
    go_ret
    exact ⟨rfl, rfl⟩

set_option maxHeartbeats 400000 in
theorem rint (h : Byts w B a c bs) (i : Int) (hi : -9223372036854775808 ≤ i ∧ i ≤ 9223372036854775807) (hbs : bs.length ≤ 800000) :
    Calls Tryd.prog 40 #[.slice a bs.length c, .int .i64 i] w fun e w' => ∃ v', e = .returned v' ∧ Own w' w.heap.size v' (bs ++ numL (zigN i)) ∧ Below w.heap.size w w' := by
  have h1 := zig_any i w hi
  have h2 := rnum h (zigN i) (zigN_lt hi.1 hi.2) hbs
  go_enter Tryd.func40, Tryd.ntmps40
  go_wp2_with (first | (go_at_call 62; refine h1.mono ?_; rintro e w' ⟨rfl, rfl⟩) | (go_at_call 39; refine h2.mono ?_; rintro e w' ⟨v', rfl, ho, hb⟩))
  go_ret
  exact ⟨_, rfl, ho, hb⟩

end
end Go.Proofs.YteiidkojofaamaaDoor
namespace Go.Proofs.YteiidkojofaamaaDoor
open Go Go.RowKit

section
variable {W : World} {lo : Nat} {v : Value} {l : List UInt8}
theorem rnum_own (h : Own W lo v l) (hlo : lo ≤ W.heap.size) {n : Int} (hn : 0 ≤ n ∧ n ≤ 1099511627776) (hl : l.length ≤ 700000) : Calls Tryd.prog 39 #[v, .int .u64 n] W fun r w' => ∃ v', r = .returned v' ∧ Own w' lo v' (l ++ numI n) ∧ Below W.heap.size W w' := by
  obtain ⟨a, c, rfl, hy⟩ := h.byts
  have := rnum hy n.toNat (by omega) (by omega)
  rw [show ((n.toNat : Nat) : Int) = n by omega] at this
  refine this.mono ?_
  rintro r w' ⟨v', rfl, ho, hb⟩
  exact ⟨v', rfl, ho.lower hlo, hb⟩
theorem rint_own (h : Own W lo v l) (hlo : lo ≤ W.heap.size) {n : Int} (hn : -9223372036854775808 ≤ n ∧ n ≤ 9223372036854775807) (hl : l.length ≤ 700000) : Calls Tryd.prog 40 #[v, .int .i64 n] W fun r w' => ∃ v', r = .returned v' ∧ Own w' lo v' (l ++ numL (zigN n)) ∧ Below W.heap.size W w' := by
  obtain ⟨a, c, rfl, hy⟩ := h.byts
  refine (rint hy n hn (by omega)).mono ?_
  rintro r w' ⟨v', rfl, ho, hb⟩
  exact ⟨v', rfl, ho.lower hlo, hb⟩
end
theorem index3 (cs : Array Value) (k : Nat) (v : Value) (hk : k < 3) (h : cs[k]? = some v) (w : World) : (Instr.index 68 (.agg cs) (.int .i64 k)).run Tryd.prog w = .ok v w := by
  simp [Instr.index, asIntOf, run_underlying Tryd.underlying68, go_sem, hk, h]
theorem index8 (cs : Array Value) (k : Nat) (v : Value) (hk : k < 8) (h : cs[k]? = some v) (w : World) : (Instr.index 22 (.agg cs) (.int .i64 k)).run Tryd.prog w = .ok v w := by
  simp [Instr.index, asIntOf, run_underlying Tryd.underlying22, go_sem, hk, h]
theorem rbytes_bad (e : Ev) (w : World) (hg : goodE e = false) : Calls Tryd.prog 13 #[.agg (evA e)] w fun r w' => r = .returned (.slice none 0 0) ∧ Below w.heap.size w w' := by
  have B0 : Below w.heap.size w (w.alloc (.cells (evA e) 26)) := (Below.refl _ w).alloc (Nat.le_refl _) _
  have HG := rgood_any e (w.alloc (.cells (evA e) 26))
  rw [hg] at HG
  unfold evA at HG B0 ⊢
  clear hg
  go_enter Tryd.func13, Tryd.ntmps13
  go_wp2_with (go_at_call 9; (with_reducible refine HG.mono ?_); rintro r w1 ⟨rfl, hb1⟩)
  go_ret
  exact ⟨rfl, B0.trans (hb1.mono B0.size)⟩
/-- The three numbers of a context ahead of its registers. -/
def hdL (e : Ev) : List Int := [e.pg, e.pc, e.dp]
end Go.Proofs.YteiidkojofaamaaDoor
