/- A region that draws its order, within a round of a range over a function: its operations but the last only read, and the last waits for all others: one walk in the order of the text serves every order. -/
import Derived.RangeFuncCalls
import Derived.Deep.QuietTactic
import Derived.OrdersIn
import Derived.TacticsIn
import Derived.BigQuiet
namespace Go.Proofs.Ytmbpmcgppnanpaa.Lk
open Go Go.RowKit

section
variable {P : Program} {ops : Array Oper} {C : World → Prop} {md : Region.Mode}

/-- Whatever order is picked from here on, till only the last is left. -/
def wpAnyT (P : Program) (md : Region.Mode) (ops : Array Oper) (C : World → Prop) (k : Nat) (T : Act → Prop) : Nat → Array Bool → Act → Prop
  | 0, _, _ => False
  | fuel + 1, listed, a =>
    Region.ready md ops listed ≠ [] ∧ ∀ i ∈ Region.ready md ops listed,
      (i = k → Region.ready md ops (listed.setIfInBounds k true) = [] ∧ T a) ∧
      (i ≠ k → qOp P ops C i (wpAnyT P md ops C k T fuel (listed.setIfInBounds i true)) a)

theorem wpIn_of_quiet {l n : Nat} {o : Oper} {a : Act} {K : Act → Prop} {K' : Act → World → Prop} {Q' : Exit → Act → World → Prop} {w : World} (hnd : ∀ c, o.op ≠ .defer c) (hw : C w) (h : ∀ a w', C w' → K a → K' a w')
    (hh : o.quiet P a C K) : o.wpIn (Fence.wide.inRound l) n P a w K' Q' := by
  obtain ⟨v, h1, h2⟩ := hh
  have h3 := h1 w hw
  unfold Oper.quietAt at h3
  unfold Oper.wpIn
  refine ⟨fun _ _ => trivial, ?_⟩
  rw [Oper.semAt_eq _ _ _ hnd]
  generalize (execOp a.eval o).run P w = r at *
  cases r with
  | ok n w' =>
    cases n <;> simp only [Oper.quietUpon] at h3 <;> simp only [Oper.uponIn]
    case value u =>
      obtain ⟨e1, e2⟩ := h3
      rw [e1, e2]
      exact h _ _ hw h2
    case skip =>
      obtain ⟨e1, e2⟩ := h3
      rw [e1, ← e2]
      exact h _ _ hw h2
    case enter f args =>
      obtain ⟨e1, hc⟩ := h3
      rw [e1]
      refine ⟨fun hd => (by cases hd), CallsIn.inRound l (callsIn_wide.2 ?_)⟩
      exact hc.mono fun e w'' ⟨he, hw''⟩ => by subst he; exact h _ _ hw'' h2
  | halt x w' => simp only [Oper.quietUpon] at h3

theorem wpOpIn_of_qOp {l n i : Nat} {a : Act} {K : Act → Prop} {K' : Act → World → Prop} {Q' : Exit → Act → World → Prop} {w : World} (hd : ∀ (i : Nat) (o : Oper) c, ops[i]? = some o → o.op ≠ .defer c) (hC : C w) (h : ∀ a w', C w' → K a → K' a w')
    (hh : qOp P ops C i K a) : wpOpIn (Fence.wide.inRound l) n P ops Q' i K' a w := by
  unfold qOp at hh
  unfold wpOpIn
  split
  · rename_i ho; simp only [ho] at hh; exact h _ _ hC hh
  · rename_i o ho
    simp only [ho] at hh
    split
    · rename_i hw; simp only [hw, if_true] at hh; exact wpIn_of_quiet (fun c => hd i o c ho) hC h hh
    · rename_i hw; simp only [hw] at hh; exact ⟨fun _ _ => trivial, h _ _ hC hh⟩

theorem wpAnyIn_end {F : Fence} {n : Nat} {Q' : Exit → Act → World → Prop} : ∀ (fuel : Nat) {listed : Array Bool} {a : Act} {w : World}, Region.ready md ops listed = [] → Q' .normal a w → wpAnyIn F n P md ops Q' fuel listed a w
  | 0, _, _, _, h, q => ⟨h, q⟩
  | _ + 1, _, _, _, h, q => ⟨fun _ => q, fun i hi => by rw [h] at hi; cases hi⟩

theorem wpAnyIn_of_T {l n k : Nat} {T : Act → Prop} {Q' : Exit → Act → World → Prop} (hd : ∀ (i : Nat) (o : Oper) c, ops[i]? = some o → o.op ≠ .defer c)
    (hT : ∀ a w, C w → T a → wpOpIn (Fence.wide.inRound l) n P ops Q' k (fun a' w' => Q' .normal a' w') a w) : ∀ (fuel : Nat) (listed : Array Bool) (a : Act) (w : World), C w →
      wpAnyT P md ops C k T fuel listed a → wpAnyIn (Fence.wide.inRound l) n P md ops Q' fuel listed a w
  | 0, _, _, _, _, h => h.elim
  | fuel + 1, listed, a, w, hw, h => by
    refine ⟨fun h0 => absurd h0 h.1, fun i hi => ?_⟩
    obtain ⟨h1, h2⟩ := h.2 i hi
    by_cases e : i = k
    · subst e
      exact wpOpIn_mono (fun a' w' q => wpAnyIn_end fuel (h1 rfl).1 q) (hT a w hw (h1 rfl).2)
    · exact wpOpIn_of_qOp hd hw (fun a' w' hw' => wpAnyIn_of_T hd hT fuel _ a' w' hw') (h2 e)

theorem unready {i : Nat} {listed : Array Bool} {oj : Oper} (hr : i ∈ Region.ready md ops listed) (hall : ∀ e ∈ oj.after, Region.binds md e = true → listed.getD e.on false = true) : ∀ e ∈ oj.after, Region.binds md e = true → e.on ≠ i := fun e he hb heq => by
  have h1 := hall e he hb
  have h0 := (mem_ready.1 hr).1
  rw [heq] at h1
  rcases Nat.lt_or_ge i listed.size with h' | h'
  · simp [h'] at h0 h1; rw [h0] at h1; cases h1
  · simp [Array.getElem?_eq_none h'] at h1

/-- Who is listed waits for none that isn't. -/
def Closed (md : Region.Mode) (ops : Array Oper) (listed : Array Bool) : Prop := ∀ (m : Nat) (om : Oper), ops[m]? = some om → listed.getD m false = true → ∀ e ∈ om.after, Region.binds md e = true → listed.getD e.on false = true
theorem closed_set {listed : Array Bool} {j : Nat} (h : Closed md ops listed) (hj : j ∈ Region.ready md ops listed) : Closed md ops (listed.setIfInBounds j true) := by
  have up : ∀ k, listed.getD k false = true → (listed.setIfInBounds j true).getD k false = true := fun k hk => by
    by_cases e : j = k
    · subst e
      rcases Nat.lt_or_ge j listed.size with h' | h'
      · simp [h']
      · simp [Array.getElem?_eq_none h'] at hk
    · rw [getD_set_ne false e]; exact hk
  intro m om hm hl e he hb
  by_cases hmj : j = m
  · subst hmj
    obtain ⟨_, oj, hoj, hall⟩ := mem_ready.1 hj
    rw [hm] at hoj
    cases hoj
    exact up _ (hall e he hb)
  · rw [getD_set_ne false hmj] at hl
    exact up _ (h m om hm hl e he hb)
theorem closed_none (n : Nat) : Closed md ops (Array.replicate n false) := fun m om _ hl => by
  rcases Nat.lt_or_ge m n with h | h
  · simp [h] at hl
  · simp [Array.getElem?_eq_none (show (Array.replicate n false).size ≤ m by simpa using h)] at hl
/-- Operation k waits for i, or for one that does. -/
def depB (md : Region.Mode) (ops : Array Oper) : Nat → Nat → Nat → Bool
  | 0, _, _ => false
  | f + 1, k, i => match ops[k]? with
    | none => false
    | some o => o.after.any fun e => Region.binds md e && (e.on == i || depB md ops f e.on i)
theorem depB_listed {listed : Array Bool} (h : Closed md ops listed) : ∀ (f k i : Nat), depB md ops f k i = true → (∀ ok, ops[k]? = some ok → ∀ e ∈ ok.after, Region.binds md e = true → listed.getD e.on false = true) → listed.getD i false = true
  | 0, _, _, hd, _ => by simp [depB] at hd
  | f + 1, k, i, hd, hk => by
    unfold depB at hd
    cases ho : ops[k]? with
    | none => rw [ho] at hd; simp at hd
    | some o =>
      rw [ho] at hd
      obtain ⟨e, he, hb⟩ := Array.any_eq_true'.1 hd
      simp only [Bool.and_eq_true, Bool.or_eq_true, beq_iff_eq] at hb
      have h1 := hk o ho e he hb.1
      rcases hb.2 with e1 | e1
      · rw [← e1]; exact h1
      · exact depB_listed h f e.on i e1 (fun om hom e' he' hb' => h e.on om hom h1 e' he' hb')

theorem wpAnyT_first {T : Act → Prop} {i k : Nat} {oi : Oper} {v : Value} (hi : ops[i]? = some oi) (hik : i ≠ k) (hk : ∀ listed, Closed md ops listed → k ∈ Region.ready md ops listed → listed.getD i false = true)
    (hsel : ∀ (j : Nat) (o : Oper) cs b, ops[j]? = some o → o.op ≠ .select cs b) :
    ∀ (fuel : Nat) (listed : Array Bool) (a : Act), Closed md ops listed →
      (∀ j oj, ops[j]? = some oj → j ≠ i → listed.getD j true = false → (∀ e ∈ oj.after, Region.binds md e = true → e.on ≠ i) → oi.apart ops oj = true) →
      i ∈ Region.ready md ops listed → YieldsIn P ops C oi v a →
      wpAnyT P md ops C k T fuel (listed.setIfInBounds i true) (a.put oi.dst v) → wpAnyT P md ops C k T (fuel + 1) listed a := by
  intro fuel
  induction fuel with
  | zero => intro listed a _ _ _ _ H; exact H.elim
  | succ fuel ih =>
    intro listed a hcl hfree hr hy H
    refine ⟨fun h => (by rw [h] at hr; cases hr), fun j hj => ⟨fun hjk => ?_, fun hjk => ?_⟩⟩
    · exfalso
      subst hjk
      have h1 := hk listed hcl hj
      have h0 := (mem_ready.1 hr).1
      rcases Nat.lt_or_ge i listed.size with h' | h'
      · simp [h'] at h0 h1; rw [h0] at h1; cases h1
      · simp [Array.getElem?_eq_none h'] at h1
    · by_cases hji : j = i
      · subst hji; exact hy.qOp hi H
      · have h1 := (H.2 j (ready_mono hj hji)).2 hjk
        obtain ⟨hjun, oj, hoj, hall⟩ := mem_ready.1 hj
        have h2 := qOp_put hoj (hfree j oj hoj hji hjun (unready hr hall)) (fun cs b => hsel i oi cs b hi) (fun cs b => hsel j oj cs b hoj) hy h1
        have hfree' : ∀ k ok, ops[k]? = some ok → k ≠ i → (listed.setIfInBounds j true).getD k true = false →
            (∀ e ∈ ok.after, Region.binds md e = true → e.on ≠ i) → oi.apart ops ok = true := fun k ok hk hki hun hno => by
          refine hfree k ok hk hki ?_ hno
          by_cases hjk : j = k
          · subst hjk; exact hjun
          · rw [getD_set_ne true hjk] at hun; exact hun
        refine qOp_mono (fun a' h3 => ih (listed.setIfInBounds j true) a' (closed_set hcl hj) hfree' (ready_mono hr (Ne.symm hji)) h3.1 ?_) h2
        rw [Array.setIfInBounds_comm _ _ hji]
        exact h3.2

theorem wpAnyT_lex {T : Act → Prop} {k : Nat} (hs : Region.noSelect ops = true) (t : Oper) (hk : ∀ i, i < k → ∀ listed, Closed md ops listed → k ∈ Region.ready md ops listed → listed.getD i false = true) :
    ∀ (l : List Oper) (k0 : Nat) (listed : Array Bool) (a : Act), Closed md ops listed → (∀ j, (l ++ [t])[j]? = ops[k0 + j]?) → k = k0 + l.length →
      Region.lexFrom md ops (l.length + 1) k0 listed = true → wpQuiet P ops C T l a → wpAnyT P md ops C k T (l.length + 1) listed a
  | [], k0, listed, a, _, _, hkk, hB, h => by
    simp only [List.length_nil, Nat.add_zero] at hkk
    subst hkk
    simp only [List.length_nil, Region.lexFrom, Bool.and_eq_true] at hB
    obtain ⟨⟨hr, _⟩, hE⟩ := hB
    have hr' : k ∈ Region.ready md ops listed := by simpa using hr
    have hE' : Region.ready md ops (listed.setIfInBounds k true) = [] := by simpa using hE
    refine ⟨fun h0 => (by rw [h0] at hr'; cases hr'), fun i hi => ⟨fun _ => ⟨hE', h⟩, fun hne => ?_⟩⟩
    have := ready_mono (i := k) hi hne
    rw [hE'] at this
    cases this
  | o :: l, k0, listed, a, hcl, hl, hkk, hB, h => by
    have h0 : ops[k0]? = some o := by simpa using (hl 0).symm
    simp only [List.length_cons] at hkk
    rw [List.length_cons, Region.lexFrom] at hB
    simp only [Bool.and_eq_true] at hB
    obtain ⟨⟨hr, hf⟩, hB'⟩ := hB
    have hst : qOp P ops C k0 (wpQuiet P ops C T l) a := by unfold qOp; simp only [h0]; exact h
    obtain ⟨v, hy, hK⟩ := yieldsIn_of_qOp h0 hst
    exact wpAnyT_first h0 (by omega) (hk k0 (by omega)) (Region.noSelect_spec hs) (l.length + 1) listed a hcl (Region.free_spec h0 hf) (by simpa using hr) hy
      (wpAnyT_lex hs t hk l (k0 + 1) _ _ (closed_set hcl (by simpa using hr)) (fun j => by have := hl (j + 1); simpa [Nat.add_assoc, Nat.add_comm 1 j] using this) (by omega) hB' hK)

/-- No operation defers; the last waits for each before it, or for one that does. -/
def tailB (L : List Oper) : Bool :=
  L.all (fun o => match o.op with | .defer _ => false | _ => true) &&
  match L.getLast? with
  | none => false
  | some _ => (List.range (L.length - 1)).all fun i => depB .any L.toArray L.length (L.length - 1) i

theorem wpIn_region_quietT {id l' n : Nat} {Q : Exit → Act → World → Prop} {a : Act} {w : World} {L l : List Oper} {t : Oper} (hm : P.follows .mixedOrders = true) (hL : L = l ++ [t]) (hB : Region.lexB .any L.toArray = true) (hD : tailB L = true)
    (h : wpQuiet P L.toArray (fun w' => ∃ n, w' = w.drewN n) (fun a' => ∀ w', (∃ n, w' = w.drewN n) → wpListIn (Fence.wide.inRound l') n P L.toArray Q [t] a' w') l a) :
    (Code.region id L.toArray true).wpIn (Fence.wide.inRound l') n P Q a w := by
  simp only [Region.lexB, Bool.and_eq_true] at hB
  simp only [tailB, Bool.and_eq_true] at hD
  obtain ⟨hD1, hD2⟩ := hD
  have hlast : L.getLast? = some t := by rw [hL]; simp
  rw [hlast] at hD2
  have hlen : L.length = l.length + 1 := by rw [hL]; simp
  have ht : L.toArray[l.length]? = some t := by rw [hL]; simp
  refine wpIn_region_any hm (wpAnyIn_of_T (C := fun w' => ∃ n, w' = w.drewN n) (k := l.length) (T := fun a' => ∀ w', (∃ n, w' = w.drewN n) → wpListIn (Fence.wide.inRound l') n P L.toArray Q [t] a' w') ?_ ?_ _ _ _ _ ⟨1, rfl⟩ ?_)
  · intro i o c hi e
    have hm2 : o ∈ L := by
      have := Array.mem_of_getElem? hi
      simpa using this
    have := (List.all_eq_true.1 hD1) o hm2
    rw [e] at this
    cases this
  · intro a' w' hw' hT
    have := hT w' hw'
    unfold wpOpIn
    rw [ht]
    exact this
  · have hlex := wpAnyT_lex (P := P) (C := fun w' => ∃ n, w' = w.drewN n) (md := .any) (k := l.length) (T := fun a' => ∀ w', (∃ n, w' = w.drewN n) → wpListIn (Fence.wide.inRound l') n P L.toArray Q [t] a' w') hB.1 t (fun i hi listed hcl hr => ?_) l 0 (Array.replicate L.toArray.size false) a (closed_none _) (fun j => by rw [← hL]; simp) (by omega) (by rw [← hlen]; simpa using hB.2) h
    · rw [← hlen] at hlex
      simpa using hlex
    · have h1 := (List.all_eq_true.1 hD2) i (by simp; omega)
      rw [show L.length - 1 = l.length by omega] at h1
      obtain ⟨_, ok, hok, hall⟩ := mem_ready.1 hr
      exact depB_listed hcl _ _ _ h1 (fun o ho => by rw [ho] at hok; cases hok; exact hall)

theorem wpIn_region_quietL {id l' n : Nat} {Q : Exit → Act → World → Prop} {a : Act} {w : World} {L r : List Oper} {t : Oper} (hm : P.follows .mixedOrders = true) (hB : Region.lexB .any L.toArray = true) (hD : tailB L = true) (hr : L.reverse = t :: r)
    (h : wpQuiet P L.toArray (fun w' => ∃ n, w' = w.drewN n) (fun a' => ∀ w', (∃ n, w' = w.drewN n) → wpListIn (Fence.wide.inRound l') n P L.toArray Q [t] a' w') r.reverse a) :
    (Code.region id L.toArray true).wpIn (Fence.wide.inRound l') n P Q a w := by
  have hL : L = r.reverse ++ [t] := by
    have h1 := congrArg List.reverse hr
    simpa using h1
  exact wpIn_region_quietT hm hL hB hD h

end
end Go.Proofs.Ytmbpmcgppnanpaa.Lk
