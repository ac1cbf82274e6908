/- Numbers that are put behind bytes: the program's putNums, and the closure that puts them into a box. -/
import Derived.Test.YteiidkojofaamaaDoorEBx
import Derived.Test.YteiidkojofaamaaDoorKFns
namespace Go.Proofs.YteiidkojofaamaaDoor
open Go Go.RowKit

/-- Pointers to numbers, one behind the other. -/
def Pts (w : World) (L : Nat) (ns : List Int) : Prop := ∀ j n, ns[j]? = some n → ∃ p : Addr, w.cell? ⟨L, j, none⟩ = some (.pointer (some p)) ∧ w.cell? p = some (.int .i64 n)
theorem Pts.below {w w' : World} {L : Nat} {ns : List Int} (h : Pts w L ns) (hb : Below w.heap.size w w') : Pts w' L ns := fun j n hj => by
  obtain ⟨p, h1, h2⟩ := h j n hj
  exact ⟨p, cell_on hb h1, cell_on hb h2⟩
def numsL (ns : List Int) : List UInt8 := ns.flatMap numI
theorem numsL_step {ns : List Int} {j : Nat} {n : Int} (h : ns[j]? = some n) : numsL (ns.take (j + 1)) = numsL (ns.take j) ++ numI n := by
  obtain ⟨hj, e⟩ := List.getElem?_eq_some_iff.1 h
  unfold numsL
  rw [List.take_succ_eq_append_getElem hj, List.flatMap_append, e]
  simp
theorem numI_len (n : Int) : (numI n).length ≤ 11 := numL_len _
theorem numsL_len : ∀ ns : List Int, (numsL ns).length ≤ 11 * ns.length
  | [] => by simp [numsL]
  | n :: ns => by
    have h1 := numsL_len ns
    have h2 := numI_len n
    unfold numsL at h1 ⊢
    rw [List.flatMap_cons, List.length_append, List.length_cons]
    omega
set_option maxHeartbeats 1000000 in
theorem putn_any {w : World} {lo : Nat} {v : Value} {bs : List UInt8} (h : Own w lo v bs) {L c : Nat} {ns : List Int} (hp : Pts w L ns) (hr : ∀ n ∈ ns, 0 ≤ n ∧ n ≤ 1099511627776) (hlo : lo ≤ w.heap.size) (hn : ns.length ≤ 100) (hbs : bs.length ≤ 700000) :
    Calls Tryd.prog 36 #[v, .slice (some ⟨L, 0, none⟩) ns.length c] w fun e w' => ∃ v', e = .returned v' ∧ Own w' lo v' (bs ++ numsL ns) ∧ Below w.heap.size w w' := by
  obtain ⟨m, hm⟩ : ∃ m, Hid (ns.length = m) := ⟨_, rfl⟩
  rw [hm.out]
  have hm' : m ≤ 100 := by rw [← hm.out]; exact hn
  clear hn
  go_enter Tryd.func36, Tryd.ntmps36
  go_wp2_with fail
  go_loopw [0, 9, 6] (fun v0 v9 _ wr => ∃ j : Nat, j ≤ m ∧ v9 = .int .i64 j ∧ Own wr lo v0 (bs ++ numsL (ns.take j)) ∧ Below w.heap.size w wr) (fun _ v9 _ _ => 100 - (intOf v9).toNat)
  case atStart => exact ⟨0, Nat.zero_le _, rfl, by simpa [numsL] using h, Below.refl _ _⟩
  case round =>
    obtain ⟨j, hj, rfl, ho, hb⟩ := hrel
    by_cases hlt : j < m
    · have hjn : j < ns.length := by rw [hm.out]; exact hlt
      have hg : ns[j]? = some ns[j] := List.getElem?_eq_getElem hjn
      have hrg := hr _ (List.mem_of_getElem? hg)
      obtain ⟨p, p1, p2⟩ := hp.below hb j _ hg
      generalize hx : ns[j] = x at hg p2 hrg
      have HS : Hid (bs ++ numsL (ns.take j) ++ numI x = bs ++ numsL (ns.take (j + 1))) := by rw [List.append_assoc, ← numsL_step hg]; exact Hid.mk rfl
      have hlen : (bs ++ numsL (ns.take j)).length ≤ 800000 := by
        have := numsL_len (ns.take j)
        rw [List.length_take] at this
        rw [List.length_append]
        omega
      obtain ⟨a1, c1, rfl, hy⟩ := ho.byts
      have HN := cnum hy x.toNat (by omega) hlen
      have hx0 : ((x.toNat : Nat) : Int) = x := by omega
      rw [hx0] at HN
      generalize (bs ++ numsL (ns.take j)).length = k at *
      have hlt' : (j : Int) < (m : Int) := by omega
      have hlo' : lo ≤ wr.heap.size := Nat.le_trans hlo hb.size
      obtain ⟨hx1, hx2⟩ := hrg
      clear hx hjn hg hlen hx0 hy
      go_wp2_with (go_at_call 58; (with_reducible refine HN.mono ?_); rintro e w1 ⟨v1, rfl, ho1, hb1⟩)
      go_roundw
      case rel => exact ⟨j + 1, by omega, by simp, by rw [← HS.out]; exact ho1.lower hlo', hb.trans (hb1.mono hb.size)⟩
      case measure =>
        simp [intOf]
        omega
    · obtain rfl : j = m := by omega
      rw [show ns.take j = ns from List.take_of_length_le (by rw [hm.out]; exact Nat.le_refl _)] at ho
      have HO := Hid.mk ho
      clear ho
      go_wp2_with fail
      go_ret
      exact ⟨_, rfl, HO.out, hb⟩

/-- What is kept while an event's numbers are put: the event, the box, the table. -/
structure PS (lo : Nat) (W : World) (E X : Nat) (e : Ev) (l : List UInt8) : Prop where
  ev : Cel W E (evA e) 26
  bx : Bx W lo X l
  tab : Tab W
  ne : E ≠ X
  pos : 0 < X
theorem PS.below {lo : Nat} {W W' : World} {E X : Nat} {e : Ev} {l : List UInt8} (h : PS lo W E X e l) (hb : Below W.heap.size W W') : PS lo W' E X e l := ⟨h.ev.below hb, h.bx.below hb, h.tab.on hb, h.ne, h.pos⟩
theorem PS.put {lo : Nat} {W W1 : World} {E X : Nat} {e : Ev} {l l' : List UInt8} {v' : Value} (h : PS lo W E X e l) (hb : Below W.heap.size W W1) (ho : Own W1 lo v' l') : PS lo (W1.setCell ⟨X, 0, none⟩ v') E X e l' :=
  ⟨(h.ev.below hb).other h.ne v', (h.bx.put hb ho).1, (h.tab.on hb).put (Below.heap_setCell _ _ _ _ (fun e => by have := h.pos; simp at e; omega)), h.ne, h.pos⟩
/-- The closure: numbers are put behind the box's bytes. -/
theorem put1_any {lo : Nat} {w : World} {E X : Nat} {e : Ev} {l : List UInt8} (h : PS lo w E X e l) {L c : Nat} {ns : List Int} (hp : Pts w L ns) (hr : ∀ n ∈ ns, 0 ≤ n ∧ n ≤ 1099511627776) (hlo : lo ≤ w.heap.size) (hn : ns.length ≤ 100) (hbs : l.length ≤ 700000) :
    Calls Tryd.prog 35 #[.slice (some ⟨L, 0, none⟩) ns.length c, .pointer (some ⟨X, 0, none⟩)] w fun r w' => r = .returned (.tuple #[]) ∧ PS lo w' E X e (l ++ numsL ns) ∧ But [X] w w' := by
  obtain ⟨v, hc, ho⟩ := h.bx.at_
  have hcell := hc.cell (j := 0) rfl
  have HN := putn_any (c := c) ho hp hr hlo hn hbs
  obtain ⟨k, hk⟩ : ∃ k, Hid ((l ++ numsL ns).length = k) := ⟨_, rfl⟩
  generalize ns.length = m at *
  have H := Hid.mk h
  clear h hp hr hn hbs hc ho
  go_enter Tryd.func35, Tryd.ntmps35
  go_wp2_with (go_at_call 36; (with_reducible refine HN.mono ?_); rintro e w1 ⟨v1, rfl, ho1, hb1⟩; have hfz := (H.out.bx.put hb1 ho1).2; have hcell1 := cell_on hb1 hcell; obtain ⟨a1, c1, rfl, _⟩ := own_sl ho1 hk.out)
  go_end0
  exact ⟨rfl, H.out.put hb1 ho1, but_box hb1 _⟩
end Go.Proofs.YteiidkojofaamaaDoor
