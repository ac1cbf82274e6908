/- The walk of LinksMoves. -/
import Derived.Test.YtpaedcknhlojkaaApp
import Derived.Test.YtpaedcknhlojkaaOpens
import Derived.Deep.CutRange
namespace Go.Proofs.Ytpaedcknhlojkaa
open Go.RowKit

/-- An append that is guarded, and wanted. -/
theorem wpList_appg {w : World} {ops : Array Oper} {rest : List Oper} {o : Oper} {a : Act} {Q : Exit → Act → World → Prop} (hw : Region.wanted o (yielded ops a.tmps) = true) (s x : Operand) (hop : o.op = Op.call { callee := Callee.builtin Builtin.append, args := #[s, x], argTypes := #[33, 33] })
    (base : Nat) (v : Value) (k : Nat) (xs : List Int) (hs : a.eval s = v) (hown : w.ownsRow base 3 1 v k (xs.map (Value.int .i64))) (sp : Option Addr) (m c : Nat) (news : List Int) (hx : a.eval x = .slice sp m c) (hl : news.length = m) (hr : Reads w sp c news)
    (hk : k + m ≤ 100000) (hb : base ≤ w.heap.size)
    (hK : ∀ v' w', w'.ownsRow base 3 1 v' (k + m) ((xs ++ news).map (Value.int .i64)) → w.grownBy w' v.ownBlock → wpList Try.prog ops Q rest (a.put o.dst v') w') :
    wpList Try.prog ops Q (o :: rest) a w := by
  refine wpList_step fun K hK' => ?_
  rw [if_pos hw]
  obtain ⟨v', w', hrun, r1, r2⟩ := run_app (ty := o.type) hown hl hr hk hb
  unfold Oper.wp
  simp [execOp, hop, resolve, invoke, builtin, hs, hx, hrun, Result.andThen]
  exact hK' _ _ (hK v' w' r1 r2)

theorem RowI.at {W : World} {base n : Nat} {a : Option Addr} {c : Nat} {xs : List Int} (h : RowI W base (.slice a n c) xs) : IntsR W a xs := by
  obtain ⟨a', c', e, hi⟩ := h.open'
  injection e with h1 h2 h3
  subst h1
  exact hi

theorem push3 (X : List Nat) (t : Int) : ∃ X', pushS 20 3 [X, [], []] 0 t = [X', [], []] := by
  unfold pushS
  split
  · exact ⟨X ++ [t.toNat], rfl⟩
  · exact ⟨X, rfl⟩
theorem front3 (X Y : List Nat) (t : Int) : ∃ Y', frontS 20 3 [X, Y, []] 1 t = [X, Y', []] := by
  unfold frontS
  split
  · exact ⟨t.toNat :: Y, rfl⟩
  · exact ⟨Y, rfl⟩
theorem move01 (X Y : List Nat) : moveS 3 [X, Y, []] 0 1 = [[], Y ++ X, []] ∧ moveV 3 [X, Y, []] 0 1 = X.length ∧ moveE 3 0 1 = 0 := ⟨rfl, rfl, rfl⟩
theorem move12 (Z : List Nat) : moveS 3 [[], Z, []] 1 2 = [[], [], Z] ∧ moveV 3 [[], Z, []] 1 2 = Z.length ∧ moveE 3 1 2 = 0 := ⟨rfl, rfl, rfl⟩
theorem lsI0 (X Y Z : List Nat) : lsI [X, Y, Z] 0 = X ∧ lsI [X, Y, Z] 1 = Y ∧ lsI [X, Y, Z] 2 = Z := ⟨rfl, rfl, rfl⟩

/-- What the statement keeps: lists, and what lay before. -/
structure MvS (w w' : World) (P : Pl) (X Y Z : List Nat) : Prop where
  q : LQ w' P 20 3 [X, Y, Z]
  b : Below w.heap.size w w'
  k : ∀ k ∈ [P.B, P.n, P.p, P.w, P.c], w.heap.size ≤ k
theorem MvS.step {w W W' : World} {P : Pl} {X Y Z X' Y' Z' : List Nat} (h : MvS w W P X Y Z) (hq : LQ W' P 20 3 [X', Y', Z']) (hb : But P.S W W') : MvS w W' P X' Y' Z' :=
  ⟨hq, h.b.trans (hb.below h.b.size (fun x hx => h.k x (P_S hx))), h.k⟩
theorem MvS.grow {w W W' : World} {P : Pl} {X Y Z : List Nat} (h : MvS w W P X Y Z) (hb : Below W.heap.size W W') : MvS w W' P X Y Z :=
  ⟨h.q.below hb, h.b.trans (hb.mono h.b.size), h.k⟩

set_option maxRecDepth 100000 in
set_option maxHeartbeats 4000000 in
theorem moves_any (sa sb : Option Addr) (ca cb : Nat) (xa xb : List Nat) (w : World) (ha : Bytes8 w sa xa) (hb : Bytes8 w sb xb) (la : ∀ x ∈ xa, x < 256) (lb : ∀ x ∈ xb, x < 256) :
    Calls Try.prog 5 #[.slice sa xa.length ca, .slice sb xb.length cb] w fun e w' => e = .returned (.bool true) ∧ Below w.heap.size w w' := by
  by_cases hlen : xa.length ≤ 20 ∧ xb.length ≤ 20
  · obtain ⟨l1, l2⟩ := hlen
    have l1' : (xa.length : Int) ≤ 20 := by omega
    have l2' : (xb.length : Int) ≤ 20 := by omega
    go_enter Try.func5, Try.ntmps5
    go_wp2_with (first
      | (go_at_call 9; refine (new_some 20 3 (by decide) (by decide) (by decide) (by decide) _).mono ?_; rintro e w1 ⟨P, rfl, h, hk, hB⟩; have hM : MvS w w1 P [] [] [] := ⟨h, hB, hk⟩; clear h hk hB))
    go_loopw [42, 7] (fun v _ wr => ∃ (j : Nat) (X : List Nat), j ≤ xa.length ∧ v = .int .i64 j ∧ MvS w wr P X [] []) (fun v _ _ => 20 - (intOf v).toNat)
    case atStart => exact ⟨0, [], by omega, rfl, hM⟩
    case round =>
      clear hM
      obtain ⟨j, X, hj, rfl, hM⟩ := hrel
      by_cases hlt : j < xa.length
      · obtain ⟨b, o, rfl, hc⟩ := ha.below hM.b j xa[j] (by simp)
        have hx := la xa[j] (by simp)
        have hlt' : (j : Int) < (xa.length : Int) := by omega
        generalize xa[j] = x at *
        obtain ⟨X', hX⟩ := push3 X ((x % 20 : Nat) : Int)
        have PU := push_any hM.q 0 ((x % 20 : Nat) : Int)
        rw [hX] at PU
        clear hX
        have hm : IntKind.i64.wrap ((x : Int) % 20) = ((x % 20 : Nat) : Int) := by rw [IntKind.wrap_i64]; omega
        go_wp2_with (first
          | (go_at_call 18; refine PU.mono ?_; rintro e w2 ⟨rfl, h2, b2⟩))
        go_roundw
        case rel => exact ⟨j + 1, X', by omega, by simp, hM.step h2 b2⟩
        case measure =>
          simp [intOf]
          omega
      · obtain rfl : j = xa.length := by omega
        go_wp2_with fail
        go_loopw [54, 9] (fun v _ wr => ∃ (j : Nat) (Y : List Nat), j ≤ xb.length ∧ v = .int .i64 j ∧ MvS w wr P X Y []) (fun v _ _ => 20 - (intOf v).toNat)
        case atStart => exact ⟨0, [], by omega, rfl, hM⟩
        case round =>
          clear hM
          obtain ⟨j, Y, hj, rfl, hM⟩ := hrel
          by_cases hlt : j < xb.length
          · obtain ⟨b, o, rfl, hc⟩ := hb.below hM.b j xb[j] (by simp)
            have hx := lb xb[j] (by simp)
            have hlt' : (j : Int) < (xb.length : Int) := by omega
            generalize xb[j] = x at *
            obtain ⟨Y', hY⟩ := front3 X Y ((x % 20 : Nat) : Int)
            have PU := front_any hM.q 1 ((x % 20 : Nat) : Int)
            rw [hY] at PU
            clear hY
            have hm : IntKind.i64.wrap ((x : Int) % 20) = ((x % 20 : Nat) : Int) := by rw [IntKind.wrap_i64]; omega
            go_wp2_with (first
              | (go_at_call 19; refine PU.mono ?_; rintro e w2 ⟨rfl, h2, b2⟩))
            go_roundw
            case rel => exact ⟨j + 1, Y', by omega, by simp, hM.step h2 b2⟩
            case measure =>
              simp [intOf]
              omega
          · obtain rfl : j = xb.length := by omega
            have hX := hM.q.ok.short (i := 0) (q := X) rfl
            have hY := hM.q.ok.short (i := 1) (q := Y) rfl
            obtain ⟨Z, hZ⟩ : ∃ Z, Hid (Z = Y ++ X) := ⟨_, rfl⟩
            have MV1 : ∀ W, LQ W P 20 3 [X, Y, []] → Calls Try.prog 20 #[.pointer (some ⟨P.B, 0, none⟩), .int .i64 0, .int .i64 1] W fun e w' => e = .returned (.tuple #[.int .i64 X.length, .int .i64 0]) ∧ LQ w' P 20 3 [[], Z, []] ∧ But P.S W w' := fun W h => by rw [hZ.out]; exact move_any h 0 1
            have MV2 : ∀ W, LQ W P 20 3 [[], Z, []] → Calls Try.prog 20 #[.pointer (some ⟨P.B, 0, none⟩), .int .i64 1, .int .i64 2] W fun e w' => e = .returned (.tuple #[.int .i64 Z.length, .int .i64 0]) ∧ LQ w' P 20 3 [[], [], Z] ∧ But P.S W w' := fun W h => move_any h 1 2
            have LN0 : ∀ W, LQ W P 20 3 [[], Z, []] → Calls Try.prog 14 #[.pointer (some ⟨P.B, 0, none⟩), .int .i64 0] W fun e w' => e = .returned (.int .i64 0) ∧ w' = W := fun W h => len_any h 0
            have LN1 : ∀ W, LQ W P 20 3 [[], [], Z] → Calls Try.prog 14 #[.pointer (some ⟨P.B, 0, none⟩), .int .i64 1] W fun e w' => e = .returned (.int .i64 0) ∧ w' = W := fun W h => len_any h 1
            have AL : ∀ W i q, Src W (.pointer (some ⟨P.B, 0, none⟩)) i q → Calls Try.prog 16 #[.pointer (some ⟨P.B, 0, none⟩), .int .i64 i] W fun e w' => ∃ a c, e = .returned (.tuple #[.slice a q.length c, .bool true]) ∧ RowI w' W.heap.size (.slice a q.length c) (ints q) ∧ Below W.heap.size W w' := fun W i q h => (lall_any _ i q W h).mono fun e w' ⟨v, he, hr, hb⟩ => by
              obtain ⟨a, c, e1, _⟩ := hr.open'
              rw [ints_len] at e1
              subst e1
              exact ⟨a, c, he, hr, hb⟩
            have INTS : ∀ W a b c d, IntsR W a (ints Z) → IntsR W b (ints Z) → Calls Try.prog 17 #[.slice a Z.length c, .slice b Z.length d] W fun e w' => e = .returned (.bool true) ∧ Below W.heap.size W w' := fun W a b c d h1 h2 => by
              have := ints_any a b c d (ints Z) W (by rw [ints_len, hZ.out, List.length_append]; omega) h1 h2
              rwa [ints_len] at this
            have iZ : Hid (ints Z = ints Y ++ ints X) := by unfold Hid; rw [hZ.out]; simp [ints]
            have eX := ints_len X
            have eY := ints_len Y
            have HeX : Hid ((ints X).length = X.length) := eX
            have HeY : Hid ((ints Y).length = Y.length) := eY
            have eZ : Hid ((ints Z).length = Y.length + X.length) := by unfold Hid; rw [iZ.out, List.length_append, eX, eY]
            have eZ2 : Hid (Z.length = Y.length + X.length) := by unfold Hid; rw [← eZ.out, ints_len]
            clear eX eY
            have s0 : Src wr (.pointer (some ⟨P.B, 0, none⟩)) 0 X := hM.q.src 0
            go_wp2_with (first
              | (go_at_call 16; (with_reducible refine (AL _ 0 X s0).mono ?_); rintro e w2 ⟨a2, c2, rfl, r2, b2⟩; have hM2 := hM.grow b2; have s1 : Src w2 (.pointer (some ⟨P.B, 0, none⟩)) 1 Y := hM2.q.src 1)
              | (go_at_call 16; (with_reducible refine (AL _ 1 Y s1).mono ?_); rintro e w3 ⟨a3, c3, rfl, r3, b3⟩; have hM3 := hM2.grow b3)
              | (go_at_call 20; (with_reducible refine (MV1 _ hM3.q).mono ?_); rintro e w4 ⟨rfl, h4, b4⟩; have hM4 := hM3.step h4 b4; have s4 : Src w4 (.pointer (some ⟨P.B, 0, none⟩)) 1 Z := hM4.q.src 1)
              | (go_at_call 16; (with_reducible refine (AL _ 1 Z s4).mono ?_); rintro e w5 ⟨a5, c5, rfl, r5, b5⟩; have hM5 := hM4.grow b5; have R2 := RowI.below (RowI.but (r2.below b3) b4 (fun x hx => hM.q.lt5 (P_S hx))) b5; have R3 := RowI.below (RowI.but r3 b4 (fun x hx => Nat.lt_of_lt_of_le (hM.q.lt5 (P_S hx)) b2.size)) b5)
              | (go_at_call 14; (with_reducible refine (LN0 _ hM5.q).mono ?_); rintro e w' ⟨rfl, hw⟩; subst w')
              | (at_builtin; refine wpList_appg rfl _ _ rfl w5.heap.size _ 0 [] rfl (own_none w5) _ _ _ (ints Y) rfl HeY.out (R3.reads.but ((But.refl [] w5).alloc _)) (by omega) (by simp) ?_; intro v6 w6 ho6 hg6; have b6 : But [] w5 w6 := ((But.refl [] w5).alloc _).grown hg6 (fun k e => by cases e; exact Nat.le_refl _))
              | (at_builtin; refine wpList_appg rfl _ _ rfl w5.heap.size _ _ _ rfl ho6 _ _ _ (ints X) rfl HeX.out (R2.reads.but b6) (by omega) (by have := b6.size; omega) ?_; intro v7 w7 ho7 hg7; have b7 : But [] w5 w7 := b6.grown hg7 (fun k e => (ho6.lt k e).1); have R7 : RowI w7 w5.heap.size v7 (ints Z) := (by unfold RowI; rw [eZ.out, iZ.out]; simpa using ho7); obtain ⟨a7, c7, e7, i7⟩ := R7.open'; rw [ints_len] at e7; subst e7; have hM7 := hM5.grow b7.to_below; have i5 := (r5.below b7.to_below).at)
              | (go_at_call 17; (with_reducible refine (INTS _ _ _ _ _ i5 i7).mono ?_); rintro e w8 ⟨rfl, b8⟩; have hM8 := hM7.grow b8)
              | (go_at_call 20; (with_reducible refine (MV2 _ hM8.q).mono ?_); rintro e w9 ⟨rfl, h9, b9⟩; have hM9 := hM8.step h9 b9; have s9 : Src w9 (.pointer (some ⟨P.B, 0, none⟩)) 2 Z := hM9.q.src 2)
              | (go_at_call 16; (with_reducible refine (AL _ 2 Z s9).mono ?_); rintro e w10 ⟨a10, c10, rfl, r10, b10⟩; have hM10 := hM9.grow b10; have i10 := r10.at; have i11 := (RowI.below (RowI.but ((r5.below b7.to_below).below b8) b9 (fun x hx => hM4.q.lt5 (P_S hx))) b10).at)
              | (go_at_call 17; (with_reducible refine (INTS _ _ _ _ _ i10 i11).mono ?_); rintro e w11 ⟨rfl, b11⟩; have hM11 := hM10.grow b11)
              | (go_at_call 14; (with_reducible refine (LN1 _ hM11.q).mono ?_); rintro e w' ⟨rfl, hw⟩; subst w')
              | (go_at_call 8; refine (lives_any _).mono ?_; rintro e w12 ⟨rfl, b12⟩))
            go_ret
            exact ⟨rfl, hM11.b.trans (b12.mono hM11.b.size)⟩
  · go_enter Try.func5, Try.ntmps5
    by_cases h1 : xa.length ≤ 20
    · have l1' : (xa.length : Int) ≤ 20 := by omega
      have l2' : (20 : Int) < (xb.length : Int) := by omega
      go_wp2_with (first
        | (go_at_call 9; refine (new_some 20 3 (by decide) (by decide) (by decide) (by decide) _).mono ?_; rintro e w1 ⟨P, rfl, h, hk, hB⟩)
        | (go_at_call 8; refine (lives_any _).mono ?_; rintro e w2 ⟨rfl, b2⟩))
      go_ret
      exact ⟨rfl, hB.trans (b2.mono hB.size)⟩
    · have l1' : (20 : Int) < (xa.length : Int) := by omega
      go_wp2_with (first
        | (go_at_call 9; refine (new_some 20 3 (by decide) (by decide) (by decide) (by decide) _).mono ?_; rintro e w1 ⟨P, rfl, h, hk, hB⟩)
        | (go_at_call 8; refine (lives_any _).mono ?_; rintro e w2 ⟨rfl, b2⟩))
      go_ret
      exact ⟨rfl, hB.trans (b2.mono hB.size)⟩

end Go.Proofs.Ytpaedcknhlojkaa
