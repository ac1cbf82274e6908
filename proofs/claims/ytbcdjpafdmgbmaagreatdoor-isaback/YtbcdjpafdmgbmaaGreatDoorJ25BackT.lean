/- The reference's Number. -/
/- The reference's Words; rows of texts. -/
import Derived.Test.YtbcdjpafdmgbmaaGreatDoorJ24BackT
import Derived.Test.YtbcdjpafdmgbmaaGreatDoorJ03BackT
namespace Go.Proofs.YtbcdjpafdmgbmaaGreatDoor
open Go.RowKit

theorem strB_get {M : List UInt8} {i : Nat} {b : UInt8} (h : M[i]? = some b) : ∀ h', (strB M)[i]'h' = b := by
  intro h'
  have h2 := (List.getElem?_eq_some_iff.1 h).2
  have : (strB M)[i]'h' = M.toArray[i]'(by have := h'; rw [strB_size] at this; simpa using this) := rfl
  rw [this]
  simpa using h2
theorem strB_tail {l : List UInt8} {m : Nat} (hl : l.length = m + 1) (w : World) : (Instr.slice 9 (.string (strB l)) (some (.int .i64 1)) none none).run Tryz.prog w = .ok (.string (strB (l.drop 1))) w := by
  have hs : (strB l).size = m + 1 := by rw [strB_size, hl]
  have he : (strB l).extract 1 (m + 1) = strB (l.drop 1) := by
    rw [ext_str, strB_data]
    congr 1
    rw [List.take_of_length_le (by rw [List.length_drop, hl]; omega)]
  go_simp
  intro h
  omega
theorem magF_snoc (acc : Nat) (l : List UInt8) (b : UInt8) : magF acc (l ++ [b]) = 10 * magF acc l + (b.toNat - 48) := by
  unfold magF
  rw [List.foldl_append]
  rfl
theorem magF_take {M : List UInt8} {i : Nat} {b : UInt8} (h : M[i]? = some b) : magF 0 (M.take (i + 1)) = 10 * magF 0 (M.take i) + (b.toNat - 48) := by
  rw [List.take_add_one, h]
  exact magF_snoc 0 _ b

/-- What Number tells of what stands behind a -. -/
def magN (neg : Bool) (M : List UInt8) : Option Int := if magB M then some (if neg then -((magF 0 M : Nat) : Int) else ((magF 0 M : Nat) : Int)) else none
theorem numW_mag (l : List UInt8) : numW l = magN (negB l) (magOf l) := rfl
theorem sub48 {b : UInt8} (h : 48 ≤ b.toNat) : IntKind.u8.wrap ((b.toNat : Int) - 48) = ((b.toNat - 48 : Nat) : Int) := by
  have := b.toNat_lt
  rw [IntKind.wrap_u8]
  omega

end Go.Proofs.YtbcdjpafdmgbmaaGreatDoor
namespace Go.Proofs.YtbcdjpafdmgbmaaGreatDoor
open Go.RowKit

/-- Rows of texts of the call's own; texts anywhere. -/
def RowS (w : World) (lo : Nat) (v : Value) (ws : List (List UInt8)) : Prop := w.ownsRow lo 9 1 v ws.length (ws.map (fun x => Value.string (strB x)))
def WV (w : World) (a : Option Addr) (ws : List (List UInt8)) : Prop := ∀ j x, ws[j]? = some x → ∃ b o, a = some ⟨b, o, none⟩ ∧ w.cell? ⟨b, o + j, none⟩ = some (.string (strB x))
theorem WV.below {w w' : World} {a : Option Addr} {ws : List (List UInt8)} (h : WV w a ws) (hb : Below w.heap.size w w') : WV w' a ws := fun j x hj => by
  obtain ⟨b, o, e, hc⟩ := h j x hj
  exact ⟨b, o, e, cell_on hb hc⟩
theorem RowS.nil (w : World) (lo : Nat) : RowS w lo (.slice none 0 0) [] := World.ownsRow_nil w lo 9 1
theorem RowS.sl {w : World} {lo n : Nat} {v : Value} {ws : List (List UInt8)} (h : RowS w lo v ws) (hn : ws.length = n) : ∃ a c, v = .slice a n c ∧ n ≤ c ∧ WV w a ws := by
  subst hn
  obtain ⟨a, c, e, h1, h2, _⟩ := owns_rw h
  refine ⟨a, c, e, h1, fun j x hj => ?_⟩
  exact h2 j _ (by rw [List.getElem?_map, hj]; rfl)
theorem RowS.below {w w' : World} {lo : Nat} {v : Value} {ws : List (List UInt8)} (h : RowS w lo v ws) (hb : Below w.heap.size w w') : RowS w' lo v ws := owns_below h hb
theorem info9 : (Tryz.prog.info? 9).map (fun i => (i.zero, i.size, i.bytes)) = some (some (.string ⟨#[]⟩), 1, 16) := by kernel_rfl
theorem run_ownS {w : World} {ty : TypeId} {B : Nat} {v : Value} {xs : List (List UInt8)} {x : List UInt8} (hown : RowS w B v xs) {ad : Addr} {c : Nat} (hr : w.cell? ad = some (.string (strB x))) (hs : ad.spot = none) (hk : xs.length + 1 ≤ 100000) (hb : B ≤ w.heap.size) :
    ∃ v' w', (Builtin.append_ #[56, 56] ty #[v, .slice (some ad) 1 c]).run Tryz.prog w = .ok v' w' ∧ RowS w' B v' (xs ++ [x]) ∧ w.grownBy w' v.ownBlock ∧ (v'.ownBlock = v.ownBlock ∨ v'.ownBlock = some w.heap.size) := by
  have hy : Rw w (some ad) [.string (strB x)] := fun j u hu => by
    cases j with
    | zero =>
      simp at hu
      subst hu
      obtain ⟨b, o, sp⟩ := ad
      simp only at hs
      subst hs
      exact ⟨b, o, rfl, hr⟩
    | succ j => simp at hu
  obtain ⟨v', w', hrun, r1, r2, r3⟩ := run_own (t := 56) (ty := ty) (c := c) (m := 1) Tryz.underlying56 info9 rfl (by decide) hown hy rfl (fun u hu => by simp at hu; subst hu; rfl) (by unfold maxLen; omega) (by omega) hb
  refine ⟨v', w', hrun, ?_, r2, r3⟩
  unfold RowS
  rw [List.map_append, List.length_append]
  exact r1
theorem wpList_appS {w : World} {ops : Array Oper} {rest : List Oper} {o : Oper} {a : Act} {Q : Exit → Act → World → Prop} (hg : o.guard = none) (s x : Operand) (hop : o.op = Op.call { callee := Callee.builtin Builtin.append, args := #[s, x], argTypes := #[56, 56] })
    (B : Nat) (v : Value) (xs : List (List UInt8)) (hs : a.eval s = v) (hown : RowS w B v xs) (y : List UInt8) (ad : Addr) (c : Nat) (hx : a.eval x = .slice (some ad) 1 c) (hr : w.cell? ad = some (.string (strB y))) (hsp : ad.spot = none)
    (hk : xs.length + 1 ≤ 100000) (hb : B ≤ w.heap.size)
    (hK : ∀ v' w', RowS w' B v' (xs ++ [y]) → w.grownBy w' v.ownBlock → wpList Tryz.prog ops Q rest (a.put o.dst v') w') :
    wpList Tryz.prog ops Q (o :: rest) a w := by
  refine wpList_plain hg fun K hK' => ?_
  obtain ⟨v', w', hrun, r1, r2, _⟩ := run_ownS (ty := o.type) (c := c) hown hr hsp hk hb
  unfold Oper.wp execOp
  simp only [hop, resolve, invoke, builtin, Sem.run_bind, Sem.run_pure, Result.andThen_ok, List.map_toArray, List.map_cons, List.map_nil, hs, hx, hrun]
  exact hK' _ _ (hK v' w' r1 r2)
theorem strB_one {s : List UInt8} {i : Nat} {b : UInt8} (h : s[i]? = some b) (w : World) : (Instr.slice 9 (.string (strB s)) (some (.int .i64 (i : Int))) (some (.int .i64 ((i : Int) + 1))) none).run Tryz.prog w = .ok (.string (strB [b])) w := by
  have hi := (List.getElem?_eq_some_iff.1 h).1
  have hs : (strB s).size = s.length := strB_size s
  have he : (strB s).extract i (i + 1) = strB [b] := by
    rw [ext_str, strB_data, show i + 1 - i = 1 by omega, List.drop_eq_getElem_cons hi, (List.getElem?_eq_some_iff.1 h).2]
    rfl
  have h1 : (i : Int) + 1 ≤ (s.length : Int) := by omega
  have h2 : (0 : Int) ≤ (i : Int) := by omega
  have h3 : ((i : Int) + 1).toNat = i + 1 := by omega
  have h4 : ¬ (s.length : Int) < (i : Int) + 1 := by omega
  go_simp
  rw [if_pos (by omega), if_pos (by omega)]

theorem words_more {s cur : List UInt8} {i : Nat} {b : UInt8} (h : s[i]? = some b) (hb : b ≠ 32) : wordsG cur (s.drop i) = wordsG (cur ++ [b]) (s.drop (i + 1)) := by
  have hi := (List.getElem?_eq_some_iff.1 h).1
  rw [List.drop_eq_getElem_cons hi, (List.getElem?_eq_some_iff.1 h).2, wordsG, if_neg hb]
theorem words_gap {s cur : List UInt8} {i : Nat} (h : s[i]? = some 32) : wordsG cur (s.drop i) = (if cur = [] then [] else [cur]) ++ wordsG [] (s.drop (i + 1)) := by
  have hi := (List.getElem?_eq_some_iff.1 h).1
  rw [List.drop_eq_getElem_cons hi, (List.getElem?_eq_some_iff.1 h).2, wordsG, if_pos rfl]
  split <;> rfl
theorem words_end {s cur : List UInt8} {i : Nat} (h : i = s.length) : wordsG cur (s.drop i) = (if cur = [] then [] else [cur]) := by
  rw [List.drop_eq_nil_of_le (by omega), wordsG]
theorem wordsG_count : ∀ (s cur : List UInt8), (wordsG cur s).length ≤ s.length + 1
  | [], cur => by unfold wordsG; split <;> simp
  | c :: t, cur => by
    have h1 := wordsG_count t []
    have h2 := wordsG_count t (cur ++ [c])
    unfold wordsG
    split
    · split
      · simp; omega
      · simp; omega
    · simp; omega

end Go.Proofs.YtbcdjpafdmgbmaaGreatDoor
