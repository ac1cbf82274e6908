/- Regions that draw their order: one of two comes up; appends to bytes as steps. -/
import Derived.Test.YtcffmdimfmpheaaDoorCHold
import Derived.Test.YtcffmdimfmpheaaDoorCApp
namespace Go.Proofs.YtcffmdimfmpheaaDoor
open Go Go.RowKit

section
variable {P : Program} {ops : Array Oper} {Q : Exit → Act → World → Prop} {md : Region.Mode} {S : World → Prop}
theorem anyH_two {i j : Nat} {oi oj : Oper} {fuel : Nat} {listed : Array Bool} {a : Act} {w : World} (hr : Region.ready md ops listed = [i, j]) (hoi : ops[i]? = some oi) (hoj : ops[j]? = some oj)
    (h1 : ∀ K' : Act → World → Prop, Shut (∀ a w, S w → (S w → wpAnyH P md ops Q S fuel (listed.setIfInBounds i true) a w) → K' a w) → if Region.wanted oi (yielded ops a.tmps) = true then Oper.wp P oi a w K' Q else K' (a.put oi.dst undef) w)
    (h2 : ∀ K' : Act → World → Prop, Shut (∀ a w, S w → (S w → wpAnyH P md ops Q S fuel (listed.setIfInBounds j true) a w) → K' a w) → if Region.wanted oj (yielded ops a.tmps) = true then Oper.wp P oj a w K' Q else K' (a.put oj.dst undef) w) :
    wpAnyH P md ops Q S (fuel + 1) listed a w := wpAnyH_ready hr (by simp) (AllReadyH.cons hoi h1 (AllReadyH.cons hoj h2 AllReadyH.nil))
end

theorem But.grow {w w' : World} {row : Option Nat} (h : w.grownBy w' row) : But row.toList w w' :=
  ⟨h.os, h.tape, h.output, h.size, fun k hk hn => h.block k hk (fun e => hn (by rw [← e]; simp))⟩

theorem run_bgrow {w : World} {lo : Nat} {v : Value} {bs : List UInt8} {ty : TypeId} (h : Own w lo v bs) {B : Nat} {sp : Option Addr} {m c : Nat} {news : List UInt8} (hl : news.length = m) (hr : Byts w B sp c news) (hk : bs.length + m ≤ 1000000) (hb : lo ≤ w.heap.size) :
    ∃ v' w', (Builtin.append_ #[47, 47] ty #[v, .slice sp m c]).run Tryd.prog w = .ok v' w' ∧ Own w' lo v' (bs ++ news) ∧ Below lo w w' ∧ But v.ownBlock.toList w w' := by
  obtain ⟨i0, hi, hz0, hz1, hz2⟩ := info_parts info5
  have hrd : (sp = none ∧ c = 0 ∧ news = []) ∨ ∃ ad, sp = some ad ∧ ∀ j b, news[j]? = some b → w.cell? (ad.add j) = some (.int .u8 (b.toNat : Int)) := by
    rcases hr with ⟨rfl, rfl⟩ | ⟨G, o, rfl, hG, hlc, hm, hc⟩
    · cases sp with
      | none => exact .inl ⟨rfl, rfl, rfl⟩
      | some ad => exact .inr ⟨ad, rfl, fun j b hj => by simp at hj⟩
    · exact .inr ⟨⟨G, o, none⟩, rfl, fun j b hj => by rw [WideShapes.add_plain]; exact hc j b hj⟩
  rcases hrd with ⟨rfl, rfl, rfl⟩ | ⟨ad, rfl, hc⟩
  · obtain rfl : m = 0 := by simpa using hl.symm
    refine ⟨v, w, run_append_owned_none w lo 47 ty 5 i0 1 Tryd.underlying47 hi v bs.length _ h, by simpa using h, Below.refl _ _, But.refl _ _⟩
  · obtain ⟨v', w', h1, h2, h3, _⟩ := run_append_own (P := Tryd.prog) w lo 47 ty 5 i0 (.int .u8 0) 1 1 Tryd.underlying47 hi hz0 hz1 hz2 rfl (by decide) v bs.length _ h ad m c (bc news) (by rw [bc_len]; omega)
      (fun j u hu => by obtain ⟨b, hb, rfl⟩ := bc_out hu; exact hc j b hb) (fun u hu => by unfold bc at hu; obtain ⟨x, _, rfl⟩ := List.mem_map.1 hu; rfl) (by unfold maxLen; omega) (by omega) hb
    refine ⟨v', w', h1, ?_, grown_below h3 hb (own_lt h), But.grow h3⟩
    unfold Own
    rw [List.length_append, hl, bc_app]
    exact h2

section
variable {w : World} {ops : Array Oper} {o : Oper} {a : Act} {K : Act → World → Prop} {Q : Exit → Act → World → Prop} {E : Prop}
theorem step_bown (d : Option Nat) (hd : o.dst = d) (hg : o.guard = none) (s x : Operand) (hop : o.op = Op.call { callee := Callee.builtin Builtin.append, args := #[s, x], argTypes := #[47, 47] })
    (lo : Nat) (v : Value) (bs : List UInt8) (hs : a.eval s = v) (h : Own w lo v bs) (B : Nat) (sp : Option Addr) (m c : Nat) (news : List UInt8) (hx : a.eval x = .slice sp m c) (hl : news.length = m) (hr : Byts w B sp c news)
    (hk : bs.length + m ≤ 1000000) (hb : lo ≤ w.heap.size)
    (hK : ∀ v' w', Own w' lo v' (bs ++ news) → Below lo w w' → But v.ownBlock.toList w w' → K (a.put d v') w') :
    if Region.wanted o (yielded ops a.tmps) = true then Oper.wp Tryd.prog o a w K Q else E := by
  subst hd
  have hw : Region.wanted o (yielded ops a.tmps) = true := by simp [Region.wanted, hg]
  rw [if_pos hw]
  obtain ⟨v', w', hrun, r1, r2, r3⟩ := run_bgrow (ty := o.type) h hl hr hk hb
  unfold Oper.wp
  simp [execOp, hop, resolve, invoke, builtin, hs, hx, hrun, Result.andThen]
  exact hK v' w' r1 r2 r3
end
end Go.Proofs.YtcffmdimfmpheaaDoor
