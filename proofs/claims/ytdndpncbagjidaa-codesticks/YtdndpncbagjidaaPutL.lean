/- Values behind bytes: Text, Ints; the document's examples. -/
import Derived.Test.YtdndpncbagjidaaPut
import Derived.Test.YtdndpncbagjidaaStep
namespace Go.Proofs.Ytdndpncbagjidaa
open Go.RowKit

theorem strCells_bc (s : ByteArray) : Lib.strCells s = bc s.data.toList := rfl

/-- An append of a text to bytes of the call's own. -/
theorem wpList_stext {w : World} {ops : Array Oper} {rest : List Oper} {o : Oper} {a : Act} {Q : Exit → Act → World → Prop} (hg : o.guard = none) (sl x : Operand) (hop : o.op = Op.call { callee := Callee.builtin Builtin.append, args := #[sl, x], argTypes := #[22, 9] })
    (lo : Nat) (v : Value) (bs : List UInt8) (hs : a.eval sl = v) (h : Own w lo v bs) (s : ByteArray) (hx : a.eval x = .string s) (hk : bs.length + s.size ≤ 1000000) (hb : lo ≤ w.heap.size)
    (hK : ∀ v' w', Own w' lo v' (bs ++ s.data.toList) → Below lo w w' → wpList Try.prog ops Q rest (a.put o.dst v') w') :
    wpList Try.prog ops Q (o :: rest) a w := by
  obtain ⟨i0, hi, hz0, hz1, hz2⟩ := info_parts info5
  refine Lib.wpList_append_own_string w hg sl x 22 9 hop lo 5 i0 Try.underlying22 Try.underlying9 hi hz0 hz1 hz2 v bs.length (bc bs) hs h s hx (by unfold maxLen; omega) (by omega) hb ?_
  intro v' w' ho hgr _
  refine hK v' w' ?_ (grown_below hgr hb (own_lt h))
  unfold Own
  rw [List.length_append, bc_app]
  rw [strCells_bc] at ho
  exact ho

section
variable {B : Nat} {a : Option Addr} {c : Nat} {bs : List UInt8} {w : World}

set_option maxHeartbeats 400000 in
theorem ctext (h : Byts w B a c bs) (s : ByteArray) (hs : s.size ≤ 100000) (hbs : bs.length ≤ 800000) :
    Calls Try.prog 14 #[.slice a bs.length c, .string s] w fun e w' => ∃ v', e = .returned v' ∧ Own w' w.heap.size v' (bs ++ (numL s.size ++ s.data.toList)) ∧ Below w.heap.size w w' := by
  have h1 := without_any B a c bs w h
  have h2 : ∀ v, Bk w w.heap.size v bs → _ := fun v hk => putNum_any w.heap.size s.size v bs w hk (Nat.le_refl _) (by omega) (by omega)
  have hl := numL_len s.size
  have HL := Hid.mk hl
  have HS := Hid.mk hs
  have k1 : (s.size : Int) ≤ 100000 := by omega
  clear hl hs
  go_enter Try.func14, Try.ntmps14
  go_wp2_with (first
    | (go_at_call 36; refine h1.mono ?_; rintro e w' ⟨v, rfl, hk, rfl⟩)
    | (go_at_call 35; refine (h2 _ hk).mono ?_; rintro e w2 ⟨v', rfl, ho, hb⟩; have hz := hb.size)
    | (at_builtin; refine wpList_stext rfl _ _ rfl w'.heap.size _ _ rfl ho s rfl (by have := HL.out; have := HS.out; simp; omega) (by omega) ?_; intro v3 w3 ho3 hg3))
  go_ret
  exact ⟨_, rfl, by rw [← List.append_assoc]; exact ho3, hb.trans hg3⟩

set_option maxHeartbeats 1000000 in
theorem cints (h : Byts w B a c bs) (p : Option Addr) (pc : Nat) (xs : List Int) (hp : ∀ j x, xs[j]? = some x → ∃ G o, p = some ⟨G, o, none⟩ ∧ w.cell? ⟨G, o + j, none⟩ = some (.int .i64 x)) (hx : ∀ x ∈ xs, -9223372036854775808 ≤ x ∧ x ≤ 9223372036854775807) (hxl : xs.length ≤ 1000) (hbs : bs.length ≤ 800000) :
    Calls Try.prog 18 #[.slice a bs.length c, .slice p xs.length pc] w fun e w' => ∃ v', e = .returned v' ∧ Own w' w.heap.size v' (bs ++ intsL xs) ∧ Below w.heap.size w w' := by
  have h1 := without_any B a c bs w h
  have h2 : ∀ v, Bk w w.heap.size v bs → _ := fun v hk => putNum_any w.heap.size xs.length v bs w hk (Nat.le_refl _) (by omega) (by omega)
  have hl := numL_len xs.length
  have HL := Hid.mk hl
  have k1 : (xs.length : Int) ≤ 1000 := by omega
  clear hl
  go_enter Try.func18, Try.ntmps18
  go_wp2_with (first | (go_at_call 36; refine h1.mono ?_; rintro e w' ⟨v, rfl, hk, rfl⟩) | (go_at_call 35; refine (h2 _ hk).mono ?_; rintro e w2 ⟨v', rfl, ho, hb⟩; have hz := hb.size))
  go_loopw [0, 15, 6] (fun u q _ wr => ∃ j : Nat, j ≤ xs.length ∧ q = .int .i64 (j : Int) ∧ Own wr w'.heap.size u (bs ++ (numL xs.length ++ intsF (xs.take j))) ∧ Below w'.heap.size w' wr) (fun _ q _ _ => 1000 - (intOf q).toNat)
  case atStart => exact ⟨0, Nat.zero_le _, rfl, by simpa [intsF] using ho, hb⟩
  case round =>
    obtain ⟨j, hj, rfl, hrow, hB⟩ := hrel
    by_cases hlt : j < xs.length
    · obtain ⟨G, o, rfl, hcell⟩ := hp j xs[j] (by simp)
      have hin := hx xs[j] (by simp)
      have hcell' := cell_on hB hcell
      have hfl := intsF_len (xs.take j)
      rw [List.length_take, Nat.min_eq_left (by omega)] at hfl
      have hc := putInt_any w'.heap.size xs[j] _ _ _ (.inl hrow) hB.size hin (by have := HL.out; simp; omega)
      have Hsn : Hid (intsF (xs.take (j + 1)) = intsF (xs.take j) ++ numL (zigN xs[j])) := Hid.mk (by rw [List.take_succ_eq_append_getElem (by omega), intsF_app]; simp [intsF])
      clear hfl
      generalize xs[j] = x at *
      have k2 : (j : Int) < (xs.length : Int) := by omega
      have k3 : (0 : Int) ≤ (j : Int) := by omega
      go_wp2_with (go_at_call 37; refine hc.mono ?_; rintro e w3 ⟨v3, rfl, ho3, hb3⟩)
      go_roundw
      case rel => exact ⟨j + 1, by omega, by simp, by rw [Hsn.out, ← List.append_assoc (numL _), ← List.append_assoc bs]; exact ho3, hB.trans hb3⟩
      case measure =>
        simp [intOf]
        omega
    · obtain rfl : j = xs.length := by omega
      go_wp2_with fail
      go_ret
      refine ⟨_, rfl, ?_, hB⟩
      rw [List.take_length] at hrow
      exact hrow
end

theorem conv_own {w : World} {lo : Nat} {v : Value} {bs : List UInt8} (h : Own w lo v bs) : (convert 22 9 v).run Try.prog w = .ok (.string ⟨bs.toArray⟩) w := by
  obtain ⟨a, c, rfl, hy⟩ := h.byts
  exact conv_byts hy rfl

set_option maxHeartbeats 1000000 in
theorem lives_any (w : World) : Calls Try.prog 9 #[] w fun e w' => e = .returned (.bool true) ∧ Below w.heap.size w w' := by
  have hy : ∀ w : World, Byts w 0 none 0 [] := fun _ => .inl ⟨rfl, rfl⟩
  have c1 := cnum (hy w) 300 (by omega) (by simp)
  have c2 : ∀ w', _ := fun w' => cint (hy w') (-1) (by omega) (by simp)
  have e1 : ([] : List UInt8) ++ numL 300 = [172, 2] := by decide
  have e2 : ([] : List UInt8) ++ numL (zigN (-1)) = [1] := by decide
  have e3 : ([] : List UInt8) ++ intsL [1, -1] = [2, 2, 1] := by decide
  rw [e1] at c1
  simp only [e2] at c2
  have c3 : ∀ w' : World, Calls Try.prog 18 #[.slice none 0 0, .slice (some ⟨w'.heap.size, 0, none⟩) 2 2] (w'.alloc (.cells #[.int .i64 1, .int .i64 (-1)] 3)) fun e w2 => ∃ v', e = .returned v' ∧ Own w2 (w'.alloc (.cells #[.int .i64 1, .int .i64 (-1)] 3)).heap.size v' [2, 2, 1] ∧ Below (w'.alloc (.cells #[.int .i64 1, .int .i64 (-1)] 3)).heap.size (w'.alloc (.cells #[.int .i64 1, .int .i64 (-1)] 3)) w2 := fun w' => by
    have := cints (hy (w'.alloc (.cells #[.int .i64 1, .int .i64 (-1)] 3))) (some ⟨w'.heap.size, 0, none⟩) 2 [1, -1] (fun j x hj => ⟨w'.heap.size, 0, rfl, by
      match j, hj with
      | 0, hj => simp at hj; subst hj; simp [go_sem]
      | 1, hj => simp at hj; subst hj; simp [go_sem]⟩) (by simp) (by simp) (by simp)
    rw [e3] at this
    exact this
  clear e1 e2 e3 hy
  go_enter Try.func9, Try.ntmps9
  go_wp2_with (first
    | (go_at_call 10; refine c1.mono ?_; rintro e w1 ⟨v1, rfl, ho1, hb1⟩; have q1 := conv_own ho1)
    | (go_at_call 12; refine (c2 _).mono ?_; rintro e w2 ⟨v2, rfl, ho2, hb2⟩; have q2 := conv_own ho2)
    | (go_at_call 18; refine (c3 _).mono ?_; rintro e w3 ⟨v3, rfl, ho3, hb3⟩; have q3 := conv_own ho3))
  go_ret
  exact ⟨rfl, ((hb1.trans (hb2.mono hb1.size)).alloc (Nat.le_trans hb1.size hb2.size) _).trans (hb3.mono (by have := hb1.size; have := hb2.size; simp; omega))⟩

end Go.Proofs.Ytdndpncbagjidaa
