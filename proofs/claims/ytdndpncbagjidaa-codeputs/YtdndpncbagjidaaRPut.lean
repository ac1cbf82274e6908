/- The reference's puts: Num, Int, Text, Flag, Ints. -/
import Derived.Test.YtdndpncbagjidaaPutL
namespace Go.Proofs.Ytdndpncbagjidaa
open Go.RowKit

theorem low7 {z : Int} (h0 : 0 ≤ z) (h1 : z < 18446744073709551616) : bits BinOp.or IntKind.u64 (bits BinOp.and IntKind.u64 z 127) 128 = z % 128 + 128 := by
  obtain ⟨m, rfl⟩ := Int.eq_ofNat_of_zero_le h0
  have e1 : bits BinOp.and IntKind.u64 (m : Int) 127 = ((m % 128 : Nat) : Int) := by
    have := bits_and_u64_nat m 127 (by omega) (by omega)
    have e : m &&& 127 = m % 128 := Nat.and_two_pow_sub_one_eq_mod m 7
    rw [e] at this
    exact this
  rw [e1]
  have e2 := bits_or_u64_nat (m % 128) 128 (by omega) (by omega)
  have e3 : m % 128 ||| 128 = m % 128 + 128 := by
    have := Nat.two_pow_add_eq_or_of_lt (b := m % 128) (i := 7) (by omega) 1
    rw [show 2 ^ 7 * 1 = 128 from rfl] at this
    rw [Nat.or_comm]
    omega
  rw [e3] at e2
  rw [show ((128 : Nat) : Int) = 128 from rfl] at e2
  rw [e2]
  omega

section
variable {B : Nat} {a : Option Addr} {c : Nat} {bs : List UInt8} {w : World}

set_option maxHeartbeats 1000000 in
theorem rnum (h : Byts w B a c bs) (n : Nat) (hn : n < 2 ^ 64) (hbs : bs.length ≤ 800000) :
    Calls Try.prog 11 #[.slice a bs.length c, .int .u64 (n : Int)] w fun e w' => ∃ v', e = .returned v' ∧ Own w' w.heap.size v' (bs ++ numL n) ∧ Below w.heap.size w w' := by
  have hn0 := own_nob w
  have h' : Byts (w.alloc (.cells #[] 5)) (max B 0) a c bs := (h.up (by omega)).but (S := []) ((But.refl [] w).alloc _) (by simp)
  have hb0 : Below w.heap.size w (w.alloc (.cells #[] 5)) := (Below.refl _ w).alloc (Nat.le_refl _) _
  go_enter Try.func11, Try.ntmps11
  go_wp2_with (at_builtin; refine wpList_bown rfl _ _ rfl w.heap.size _ [] rfl hn0 _ _ _ _ bs rfl rfl h' (by simp; omega) (by simp) ?_; intro v3 w3 ho3 hg3)
  rw [List.nil_append] at ho3
  go_loopw [5, 1] (fun u q wr => ∃ (z : Int) (m k : Nat) (pre : List UInt8), q = .int .u64 z ∧ Hid ((m : Int) = z) ∧ 0 ≤ z ∧ z < 18446744073709551616 ∧ Hid (m < 128 ^ (k + 1)) ∧ Hid (numL n = pre ++ numF k m) ∧ Hid (pre.length + k ≤ 10) ∧ Own wr w.heap.size u (bs ++ pre) ∧ Below w.heap.size w wr) (fun _ q _ => (intOf q).toNat)
  case atStart => exact ⟨n, n, 10, [], rfl, Hid.mk rfl, by omega, by omega, Hid.mk (by omega), Hid.mk rfl, Hid.mk (by simp), by simpa using ho3, hb0.trans hg3⟩
  case round =>
    obtain ⟨z, m, k, pre, rfl, HZ, k0, k1, hk, hp, hpl, hb, hB⟩ := hrel
    have hsz := hB.size
    clear h hn h' hn0 ho3 hg3
    by_cases hlt : z < 128
    · have hb8 : z = ((UInt8.ofNat m).toNat : Int) := by have := HZ.out; rw [u8_small (by omega)]; omega
      have H8 := Hid.mk hb8
      clear hb8
      go_wp2_with (first
            | (at_builtin; refine wpList_bown rfl _ _ rfl w.heap.size _ (bs ++ pre) rfl (hb.alloc _) _ _ _ _ [UInt8.ofNat m] rfl rfl (byts_one _ _ H8.out) (by have := hpl.out; simp; omega) (by simp; omega) ?_; intro v3 w3 ho3 hg3))
      go_ret
      refine ⟨_, rfl, ?_, (hB.alloc hsz _).trans hg3⟩
      rw [hp.out, numF_small (by have := HZ.out; omega), ← List.append_assoc]
      exact ho3
    · have hb8 : z % 128 + 128 = ((UInt8.ofNat (m % 128 + 128)).toNat : Int) := by have := HZ.out; rw [u8_small (by omega)]; omega
      have hor := low7 k0 k1
      have hlo : 0 ≤ z % 128 + 128 := by omega
      have hhi : z % 128 + 128 < 256 := by omega
      have H8 := Hid.mk hb8
      clear hb8
      go_wp2_with (first
            | (at_builtin; refine wpList_bown rfl _ _ rfl w.heap.size _ (bs ++ pre) rfl (hb.alloc _) _ _ _ _ [UInt8.ofNat (m % 128 + 128)] rfl rfl (byts_one _ _ H8.out) (by have := hpl.out; simp; omega) (by simp; omega) ?_; intro v3 w3 ho3 hg3))
      go_roundw
      case rel =>
        have hz := HZ.out
        have hk' := hk.out
        obtain ⟨k', rfl⟩ : ∃ k', k = k' + 1 := by
          cases k with
          | zero => simp at hk'; omega
          | succ k' => exact ⟨k', rfl⟩
        refine ⟨_, m / 128, k', pre ++ [UInt8.ofNat (m % 128 + 128)], rfl, Hid.mk (by omega), by omega, by omega, Hid.mk (Nat.div_lt_of_lt_mul (by rw [Nat.pow_succ] at hk'; omega)), Hid.mk ?_, Hid.mk (by have := hpl.out; simp; omega), (by rw [← List.append_assoc]; exact ho3), (hB.alloc hsz _).trans hg3⟩
        rw [hp.out, numF_great (by omega), List.append_assoc]
        rfl
      case measure =>
        simp [intOf]
        omega

set_option maxHeartbeats 400000 in
theorem zig_any (i : Int) (w : World) (hi : -9223372036854775808 ≤ i ∧ i ≤ 9223372036854775807) :
    Calls Try.prog 38 #[.int .i64 i] w fun e w' => e = .returned (.int .u64 ((zigN i : Nat) : Int)) ∧ w' = w := by
  by_cases h0 : i < 0
  · have hz : ((zigN i : Nat) : Int) = 2 * (-(i + 1)) + 1 := by unfold zigN; rw [if_pos h0]; omega
    have k1 : 0 ≤ -(i + 1) := by omega
    have k2 : -(i + 1) ≤ 9223372036854775807 := by omega
    have k3 : ¬ 0 ≤ i := by omega
    rw [hz]
    clear hz
    go_enter Try.func38, Try.ntmps38
    go_wp2_with fail
    go_ret
    exact ⟨rfl, rfl⟩
  · have hz : ((zigN i : Nat) : Int) = 2 * i := by unfold zigN; rw [if_neg h0]; omega
    have k3 : 0 ≤ i := by omega
    rw [hz]
    clear hz
    go_enter Try.func38, Try.ntmps38
    go_wp2_with fail
    go_ret
    exact ⟨rfl, rfl⟩

set_option maxHeartbeats 400000 in
theorem rint (h : Byts w B a c bs) (i : Int) (hi : -9223372036854775808 ≤ i ∧ i ≤ 9223372036854775807) (hbs : bs.length ≤ 800000) :
    Calls Try.prog 13 #[.slice a bs.length c, .int .i64 i] w fun e w' => ∃ v', e = .returned v' ∧ Own w' w.heap.size v' (bs ++ numL (zigN i)) ∧ Below w.heap.size w w' := by
  have h1 := zig_any i w hi
  have h2 := rnum h (zigN i) (zigN_lt hi.1 hi.2) hbs
  go_enter Try.func13, Try.ntmps13
  go_wp2_with (first | (go_at_call 38; refine h1.mono ?_; rintro e w' ⟨rfl, rfl⟩) | (go_at_call 11; refine h2.mono ?_; rintro e w' ⟨v', rfl, ho, hb⟩))
  go_ret
  exact ⟨_, rfl, ho, hb⟩

set_option maxHeartbeats 400000 in
theorem rtext (h : Byts w B a c bs) (s : ByteArray) (hs : s.size ≤ 100000) (hbs : bs.length ≤ 800000) :
    Calls Try.prog 15 #[.slice a bs.length c, .string s] w fun e w' => ∃ v', e = .returned v' ∧ Own w' w.heap.size v' (bs ++ (numL s.size ++ s.data.toList)) ∧ Below w.heap.size w w' := by
  have h2 := rnum h s.size (by omega) hbs
  have hl := numL_len s.size
  have HL := Hid.mk hl
  have HS := Hid.mk hs
  have k1 : (s.size : Int) ≤ 100000 := by omega
  clear hl hs
  go_enter Try.func15, Try.ntmps15
  go_wp2_with (first
    | (go_at_call 11; refine h2.mono ?_; rintro e w2 ⟨v', rfl, ho, hb⟩; have hz := hb.size)
    | (at_builtin; refine wpList_stext rfl _ _ rfl w.heap.size _ _ rfl ho s rfl (by have := HL.out; have := HS.out; simp; omega) (by omega) ?_; intro v3 w3 ho3 hg3))
  go_ret
  exact ⟨_, rfl, by rw [← List.append_assoc]; exact ho3, hb.trans hg3⟩

set_option maxHeartbeats 400000 in
theorem rflag (h : Byts w B a c bs) (f : Bool) (hbs : bs.length ≤ 800000) :
    Calls Try.prog 17 #[.slice a bs.length c, .bool f] w fun e w' => ∃ v', e = .returned v' ∧ Own w' w.heap.size v' (bs ++ [if f then 1 else 0]) ∧ Below w.heap.size w w' := by
  have hn0 := own_nob w
  have h' : Byts (w.alloc (.cells #[] 5)) (max B 0) a c bs := (h.up (by omega)).but (S := []) ((But.refl [] w).alloc _) (by simp)
  have hb0 : Below w.heap.size w (w.alloc (.cells #[] 5)) := (Below.refl _ w).alloc (Nat.le_refl _) _
  cases f with
  | false =>
    simp only [Bool.false_eq_true, if_false]
    go_enter Try.func17, Try.ntmps17
    go_wp2_with (first
      | (at_builtin; refine wpList_bown rfl _ _ rfl w.heap.size _ [] rfl hn0 _ _ _ _ bs rfl rfl h' (by simp; omega) (by simp) ?_; intro v3 w3 ho3 hg3; rw [List.nil_append] at ho3; have hz3 := hg3.size; simp at hz3)
      | (at_builtin; refine wpList_bown rfl _ _ rfl w.heap.size _ bs rfl (ho3.alloc _) _ _ _ _ [0] rfl rfl (byts_one _ 0 (x := 0) rfl) (by omega) (by simp; omega) ?_; intro v4 w4 ho4 hg4))
    go_ret
    exact ⟨_, rfl, ho4, ((hb0.trans hg3).alloc (by omega) _).trans hg4⟩
  | true =>
    simp only [if_true]
    go_enter Try.func17, Try.ntmps17
    go_wp2_with (first
      | (at_builtin; refine wpList_bown rfl _ _ rfl w.heap.size _ [] rfl hn0 _ _ _ _ bs rfl rfl h' (by simp; omega) (by simp) ?_; intro v3 w3 ho3 hg3; rw [List.nil_append] at ho3; have hz3 := hg3.size; simp at hz3)
      | (at_builtin; refine wpList_bown rfl _ _ rfl w.heap.size _ bs rfl (ho3.alloc _) _ _ _ _ [1] rfl rfl (byts_one _ 1 (x := 1) rfl) (by omega) (by simp; omega) ?_; intro v4 w4 ho4 hg4))
    go_ret
    exact ⟨_, rfl, ho4, ((hb0.trans hg3).alloc (by omega) _).trans hg4⟩

set_option maxHeartbeats 1000000 in
theorem rints (h : Byts w B a c bs) (p : Option Addr) (pc : Nat) (xs : List Int) (hp : ∀ j x, xs[j]? = some x → ∃ G o, p = some ⟨G, o, none⟩ ∧ w.cell? ⟨G, o + j, none⟩ = some (.int .i64 x)) (hx : ∀ x ∈ xs, -9223372036854775808 ≤ x ∧ x ≤ 9223372036854775807) (hxl : xs.length ≤ 1000) (hbs : bs.length ≤ 700000) :
    Calls Try.prog 19 #[.slice a bs.length c, .slice p xs.length pc] w fun e w' => ∃ v', e = .returned v' ∧ Own w' w.heap.size v' (bs ++ intsL xs) ∧ Below w.heap.size w w' := by
  have h2 := rnum h xs.length (by omega) (by omega)
  have hl := numL_len xs.length
  have HL := Hid.mk hl
  have k1 : (xs.length : Int) ≤ 1000 := by omega
  clear hl
  go_enter Try.func19, Try.ntmps19
  go_wp2_with (go_at_call 11; refine h2.mono ?_; rintro e w2 ⟨v', rfl, ho, hb⟩; have hz := hb.size)
  go_loopw [0, 14, 6] (fun u q _ wr => ∃ j : Nat, j ≤ xs.length ∧ q = .int .i64 (j : Int) ∧ Own wr w.heap.size u (bs ++ (numL xs.length ++ intsF (xs.take j))) ∧ Below w.heap.size w wr) (fun _ q _ _ => 1000 - (intOf q).toNat)
  case atStart => exact ⟨0, Nat.zero_le _, rfl, by simpa [intsF] using ho, hb⟩
  case round =>
    obtain ⟨j, hj, rfl, hrow, hB⟩ := hrel
    by_cases hlt : j < xs.length
    · obtain ⟨G, o, rfl, hcell⟩ := hp j xs[j] (by simp)
      have hin := hx xs[j] (by simp)
      have hcell' := cell_on hB hcell
      have hfl := intsF_len (xs.take j)
      rw [List.length_take, Nat.min_eq_left (by omega)] at hfl
      obtain ⟨a1, c1, rfl, hy⟩ := hrow.byts
      have hc := rint hy xs[j] hin (by have := HL.out; simp; omega)
      have Hsn : Hid (intsF (xs.take (j + 1)) = intsF (xs.take j) ++ numL (zigN xs[j])) := Hid.mk (by rw [List.take_succ_eq_append_getElem (by omega), intsF_app]; simp [intsF])
      clear hfl
      generalize xs[j] = x at *
      have k2 : (j : Int) < (xs.length : Int) := by omega
      have k3 : (0 : Int) ≤ (j : Int) := by omega
      generalize hL : bs ++ (numL xs.length ++ intsF (xs.take j)) = L at *
      have HL2 := Hid.mk hL
      clear hL
      go_wp2_with (go_at_call 13; refine hc.mono ?_; rintro e w3 ⟨v3, rfl, ho3, hb3⟩)
      go_roundw
      case rel => exact ⟨j + 1, by omega, by simp, by rw [Hsn.out, ← List.append_assoc (numL _), ← List.append_assoc bs, HL2.out]; exact ho3.lower hB.size, hB.trans (hb3.mono hB.size)⟩
      case measure =>
        simp [intOf]
        omega
    · obtain rfl : j = xs.length := by omega
      go_wp2_with fail
      go_ret
      refine ⟨_, rfl, ?_, hB⟩
      rw [List.take_length] at hrow
      exact hrow
end
end Go.Proofs.Ytdndpncbagjidaa
