/- Values behind bytes: Num, Int, Text, Flag, Ints. -/
import Derived.Test.YteiidkojofaamaaDoorCTo
import Derived.Test.YteiidkojofaamaaDoorCApp
namespace Go.Proofs.YteiidkojofaamaaDoor
open Go.RowKit

set_option maxHeartbeats 400000 in
theorem clip_any (B : Nat) (a : Option Addr) (c : Nat) (bs : List UInt8) (w : World) (h : Byts w B a c bs) :
    Calls Tryd.prog 77 #[.slice a bs.length c] w fun e w' => ∃ v, e = .returned v ∧ Bk w w.heap.size v bs ∧ w' = w := by
  have hm := h.len
  have hm2 := h.cap
  unfold maxLen at hm2
  have k1 : (bs.length : Int) ≤ c := by omega
  have k2 : (c : Int) ≤ 9223372036854775807 := by omega
  have k3 : (0 : Int) ≤ bs.length := by omega
  rcases h with ⟨rfl, rfl⟩ | ⟨G, o, rfl, hG, hl, _, hc⟩
  · have hb : Bk w w.heap.size (.slice a 0 0) [] := by
      cases a with
      | none => exact .inl (own_nil _ _)
      | some ad => exact .inr ⟨ad, rfl, fun j b hj => by simp at hj⟩
    go_enter Tryd.func77, Tryd.ntmps77
    go_wp2
    go_ret
    exact ⟨_, rfl, hb, rfl⟩
  · go_enter Tryd.func77, Tryd.ntmps77
    go_wp2
    go_ret
    exact ⟨_, rfl, .inr ⟨⟨G, o, none⟩, rfl, fun j b hj => by rw [WideShapes.add_plain]; exact hc j b hj⟩, rfl⟩

set_option maxHeartbeats 400000 in
theorem without_any (B : Nat) (a : Option Addr) (c : Nat) (bs : List UInt8) (w : World) (h : Byts w B a c bs) :
    Calls Tryd.prog 61 #[.slice a bs.length c] w fun e w' => ∃ v, e = .returned v ∧ Bk w w.heap.size v bs ∧ w' = w := by
  have hc := clip_any B a c bs w h
  go_enter Tryd.func61, Tryd.ntmps61
  go_wp2_with (go_at_call 77; refine hc.mono ?_; rintro e w' ⟨v, rfl, hk, rfl⟩)
  go_ret
  exact ⟨_, rfl, hk, rfl⟩

theorem or128 {x : Int} (h0 : 0 ≤ x) (h1 : x < 256) : bits BinOp.or IntKind.u8 x 128 = x % 128 + 128 := by
  have h : ∀ n : Fin 256, bits BinOp.or IntKind.u8 ((n.val : Nat) : Int) 128 = ((n.val : Nat) : Int) % 128 + 128 := by decide +kernel
  have := h ⟨x.toNat, by omega⟩
  simp only at this
  rwa [show ((x.toNat : Nat) : Int) = x by omega] at this

set_option maxHeartbeats 1000000 in
theorem putNum_any (lo n : Nat) (v : Value) (bs : List UInt8) (w : World) (h : Bk w lo v bs) (hlo : lo ≤ w.heap.size) (hn : n < 2 ^ 64) (hbs : bs.length ≤ 900000) :
    Calls Tryd.prog 76 #[v, .int .u64 (n : Int)] w fun e w' => ∃ v', e = .returned v' ∧ Own w' lo v' (bs ++ numL n) ∧ Below lo w w' := by
  go_enter Tryd.func76, Tryd.ntmps76
  go_wp2_with fail
  go_loopw [0, 1] (fun u q wr => ∃ (z : Int) (m k : Nat) (pre : List UInt8), q = .int .u64 z ∧ Hid ((m : Int) = z) ∧ 0 ≤ z ∧ z < 18446744073709551616 ∧ Hid (m < 128 ^ (k + 1)) ∧ Hid (numL n = pre ++ numF k m) ∧ Hid (pre.length + k ≤ 10) ∧ Bk wr lo u (bs ++ pre) ∧ Below lo w wr) (fun _ q _ => (intOf q).toNat)
  case atStart => exact ⟨n, n, 10, [], rfl, Hid.mk rfl, by omega, by omega, Hid.mk (by omega), Hid.mk rfl, Hid.mk (by simp), by simpa using h, Below.refl _ _⟩
  case round =>
    obtain ⟨z, m, k, pre, rfl, HZ, k0, k1, hk, hp, hpl, hb, hB⟩ := hrel
    have hsz := hB.size
    have hsz' : lo ≤ wr.heap.size := by omega
    clear h hn
    by_cases hlt : z < 128
    · have hb8 : z = ((UInt8.ofNat m).toNat : Int) := by have := HZ.out; rw [u8_small (by omega)]; omega
      have H8 := Hid.mk hb8
      clear hb8
      go_wp2_with (first
            | (at_builtin; refine wpList_bapp rfl _ _ rfl lo _ (bs ++ pre) rfl (hb.but ((But.refl [] _).alloc _)) _ _ _ _ [UInt8.ofNat m] rfl rfl (byts_one _ _ H8.out) (by omega) (by have := hpl.out; simp; omega) (by simp; omega) ?_; intro v3 w3 ho3 hg3))
      go_ret
      refine ⟨_, rfl, ?_, (hB.alloc hsz' _).trans hg3⟩
      rw [hp.out, numF_small (by have := HZ.out; omega), ← List.append_assoc]
      exact ho3
    · have hb8 : z % 128 + 128 = ((UInt8.ofNat (m % 128 + 128)).toNat : Int) := by have := HZ.out; rw [u8_small (by omega)]; omega
      have h256 : z % 256 % 128 = z % 128 := by omega
      have hor := or128 (x := z % 256) (by omega) (by omega)
      rw [h256] at hor
      have H8 := Hid.mk hb8
      clear hb8 h256
      go_wp2_with (first
            | (at_builtin; refine wpList_bapp rfl _ _ rfl lo _ (bs ++ pre) rfl (hb.but ((But.refl [] _).alloc _)) _ _ _ _ [UInt8.ofNat (m % 128 + 128)] rfl rfl (byts_one _ _ H8.out) (by omega) (by have := hpl.out; simp; omega) (by simp; omega) ?_; intro v3 w3 ho3 hg3))
      go_roundw
      case rel =>
        have hz := HZ.out
        have hk' := hk.out
        obtain ⟨k', rfl⟩ : ∃ k', k = k' + 1 := by
          cases k with
          | zero => simp at hk'; omega
          | succ k' => exact ⟨k', rfl⟩
        refine ⟨_, m / 128, k', pre ++ [UInt8.ofNat (m % 128 + 128)], rfl, Hid.mk (by omega), by omega, by omega, Hid.mk (Nat.div_lt_of_lt_mul (by rw [Nat.pow_succ] at hk'; omega)), Hid.mk ?_, Hid.mk (by have := hpl.out; simp; omega), .inl (by rw [← List.append_assoc]; exact ho3), (hB.alloc hsz' _).trans hg3⟩
        rw [hp.out, numF_great (by omega), List.append_assoc]
        rfl
      case measure =>
        simp [intOf]
        omega

set_option maxHeartbeats 400000 in
theorem putInt_any (lo : Nat) (i : Int) (v : Value) (bs : List UInt8) (w : World) (h : Bk w lo v bs) (hlo : lo ≤ w.heap.size) (hi : -9223372036854775808 ≤ i ∧ i ≤ 9223372036854775807) (hbs : bs.length ≤ 900000) :
    Calls Tryd.prog 60 #[v, .int .i64 i] w fun e w' => ∃ v', e = .returned v' ∧ Own w' lo v' (bs ++ numL (zigN i)) ∧ Below lo w w' := by
  have hc := putNum_any lo (zigN i) v bs w h hlo (zigN_lt hi.1 hi.2) hbs
  have hsg : IntKind.i64.signed = true := rfl
  by_cases h0 : i < 0
  · have hz : ((zigN i : Nat) : Int) = 2 * (-i - 1) + 1 := by unfold zigN; rw [if_pos h0]; omega
    have hx := xor_not hi.1 hi.2
    have k1 : 0 ≤ -i - 1 := by omega
    have k2 : -i - 1 ≤ 9223372036854775807 := by omega
    rw [hz] at hc
    clear hz
    go_enter Tryd.func60, Tryd.ntmps60
    go_wp2_with (go_at_call 76; refine hc.mono ?_; rintro e w' ⟨v', rfl, ho, hb⟩)
    go_ret
    exact ⟨_, rfl, ho, hb⟩
  · have hz : ((zigN i : Nat) : Int) = 2 * i := by unfold zigN; rw [if_neg h0]; omega
    rw [hz] at hc
    clear hz
    go_enter Tryd.func60, Tryd.ntmps60
    go_wp2_with (go_at_call 76; refine hc.mono ?_; rintro e w' ⟨v', rfl, ho, hb⟩)
    go_ret
    exact ⟨_, rfl, ho, hb⟩

section
variable {B : Nat} {a : Option Addr} {c : Nat} {bs : List UInt8} {w : World}

set_option maxHeartbeats 400000 in
theorem cnum (h : Byts w B a c bs) (n : Nat) (hn : n < 2 ^ 64) (hbs : bs.length ≤ 800000) :
    Calls Tryd.prog 58 #[.slice a bs.length c, .int .u64 (n : Int)] w fun e w' => ∃ v', e = .returned v' ∧ Own w' w.heap.size v' (bs ++ numL n) ∧ Below w.heap.size w w' := by
  have h1 := without_any B a c bs w h
  have h2 : ∀ v, Bk w w.heap.size v bs → _ := fun v hk => putNum_any w.heap.size n v bs w hk (Nat.le_refl _) hn (by omega)
  go_enter Tryd.func58, Tryd.ntmps58
  go_wp2_with (first | (go_at_call 61; refine h1.mono ?_; rintro e w' ⟨v, rfl, hk, rfl⟩) | (go_at_call 76; refine (h2 _ hk).mono ?_; rintro e w' ⟨v', rfl, ho, hb⟩))
  go_ret
  exact ⟨_, rfl, ho, hb⟩

set_option maxHeartbeats 400000 in
theorem cint (h : Byts w B a c bs) (i : Int) (hi : -9223372036854775808 ≤ i ∧ i ≤ 9223372036854775807) (hbs : bs.length ≤ 800000) :
    Calls Tryd.prog 38 #[.slice a bs.length c, .int .i64 i] w fun e w' => ∃ v', e = .returned v' ∧ Own w' w.heap.size v' (bs ++ numL (zigN i)) ∧ Below w.heap.size w w' := by
  have h1 := without_any B a c bs w h
  have h2 : ∀ v, Bk w w.heap.size v bs → _ := fun v hk => putInt_any w.heap.size i v bs w hk (Nat.le_refl _) hi (by omega)
  go_enter Tryd.func38, Tryd.ntmps38
  go_wp2_with (first | (go_at_call 61; refine h1.mono ?_; rintro e w' ⟨v, rfl, hk, rfl⟩) | (go_at_call 60; refine (h2 _ hk).mono ?_; rintro e w' ⟨v', rfl, ho, hb⟩))
  go_ret
  exact ⟨_, rfl, ho, hb⟩

end

end Go.Proofs.YteiidkojofaamaaDoor
