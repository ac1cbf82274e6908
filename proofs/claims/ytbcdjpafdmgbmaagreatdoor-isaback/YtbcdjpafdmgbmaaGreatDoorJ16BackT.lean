/- Programs of bytes, plain: what reading tells, and that it is the one program of which they are the bytes. -/
/- The step of ints: as many as are said, one by one. -/
import Derived.Test.YtbcdjpafdmgbmaaGreatDoorJ14BackT
import Derived.Test.YtbcdjpafdmgbmaaGreatDoorJ09BackT
import Derived.Test.YtbcdjpafdmgbmaaGreatDoorJ03BackT
namespace Go.Proofs.YtbcdjpafdmgbmaaGreatDoor

abbrev St := Nat × List UInt8
/-- A number set. -/
def nset (x : Ins) (k : Nat) (v : Int) : Ins :=
  match k with
  | 0 => (x.1, v, x.2.2.1, x.2.2.2)
  | 1 => (x.1, x.2.1, v, x.2.2.2)
  | _ => (x.1, x.2.1, x.2.2.1, v)
theorem nset_op (x : Ins) (k : Nat) (v : Int) : (nset x k v).1 = x.1 := by unfold nset; split <;> rfl
theorem nset_same {x : Ins} {k : Nat} {v : Int} (hk : k < 3) : nk (nset x k v) k = v := by
  match k, hk with
  | 0, _ => rfl
  | 1, _ => rfl
  | 2, _ => rfl
theorem nset_ne {x : Ins} {k j : Nat} {v : Int} (hk : k < 3) (hj : j < 3) (h : j ≠ k) : nk (nset x k v) j = nk x j := by
  match k, hk, j, hj with
  | 0, _, 0, _ => omega
  | 0, _, 1, _ => rfl
  | 0, _, 2, _ => rfl
  | 1, _, 0, _ => rfl
  | 1, _, 1, _ => omega
  | 1, _, 2, _ => rfl
  | 2, _, 0, _ => rfl
  | 2, _, 1, _ => rfl
  | 2, _, 2, _ => omega
theorem ins_ext {x y : Ins} (h0 : x.1 = y.1) (h : ∀ k, k < 3 → nk x k = nk y k) : x = y := by
  obtain ⟨a, b, c, d⟩ := x
  obtain ⟨a', b', c', d'⟩ := y
  have h1 := h 0 (by omega)
  have h2 := h 1 (by omega)
  have h3 := h 2 (by omega)
  simp only [nk] at h0 h1 h2 h3
  rw [h0, h1, h2, h3]

/-- Numbers, one behind the other. -/
def fillQ (l m : Int) : List Nat → Ins → St → Ins × St
  | [], x, st => (x, st)
  | k :: q, x, st => fillQ l m q (nset x k (getS (intT l m) 0 st).1) (getS (intT l m) 0 st).2
/-- The next instruction. -/
def opI (c : UInt8) : Ins := ((c.toNat : Int), 0, 0, 0)
def nextP (l m : Int) (st : St) : Ins × St := fillQ l m (usQ (opI (getS byteT 0 st).1).1) (opI (getS byteT 0 st).1) (getS byteT 0 st).2

theorem fillQ_app (l m : Int) : ∀ (a b : List Nat) (x : Ins) (st : St), fillQ l m (a ++ b) x st = fillQ l m b (fillQ l m a x st).1 (fillQ l m a x st).2
  | [], b, x, st => rfl
  | k :: a, b, x, st => by
    show fillQ l m (a ++ b) _ _ = _
    rw [fillQ_app l m a b]
    rfl
theorem fillQ_succ (l m : Int) {q : List Nat} {j k : Nat} (h : q[j]? = some k) (x : Ins) (st : St) :
    fillQ l m (q.take (j + 1)) x st = (nset (fillQ l m (q.take j) x st).1 k (getS (intT l m) 0 (fillQ l m (q.take j) x st).2).1, (getS (intT l m) 0 (fillQ l m (q.take j) x st).2).2) := by
  rw [List.take_add_one, h, fillQ_app]
  rfl
theorem fillQ_op (l m : Int) : ∀ (q : List Nat) (x : Ins) (st : St), (fillQ l m q x st).1.1 = x.1
  | [], x, st => rfl
  | k :: q, x, st => by
    show (fillQ l m q _ _).1.1 = _
    rw [fillQ_op l m q, nset_op]
theorem fillQ_keep (l m : Int) {j : Nat} (hj : j < 3) : ∀ (q : List Nat) (x : Ins) (st : St), (∀ k ∈ q, k < 3) → j ∉ q → nk (fillQ l m q x st).1 j = nk x j
  | [], x, st, _, _ => rfl
  | k :: q, x, st, hq, hn => by
    show nk (fillQ l m q _ _).1 j = _
    rw [fillQ_keep l m hj q _ _ (fun k' h => hq k' (List.mem_cons_of_mem _ h)) (fun h => hn (List.mem_cons_of_mem _ h)), nset_ne (hq k List.mem_cons_self) hj (fun e => hn (by simp [e]))]

theorem getS_ok {α : Type} {f : List UInt8 → Nat × α × List UInt8} {z : α} {st : St} (h : (getS f z st).2.1 = 0) : st.1 = 0 ∧ (f st.2).1 = 0 ∧ getS f z st = ((f st.2).2.1, 0, (f st.2).2.2) := by
  unfold getS at h ⊢
  by_cases h0 : st.1 = 0
  · rw [if_pos h0] at h ⊢
    exact ⟨h0, h, by simp only at h; rw [h]⟩
  · rw [if_neg h0] at h
    exact absurd h h0
theorem intT_back {l m : Int} {bs : List UInt8} (h : (intT l m bs).1 = 0) : bs = numL (zigN (intT l m bs).2.1) ++ (intT l m bs).2.2 := by
  unfold intT at h ⊢
  rcases hr : numG 0 0 bs with ⟨e, n, t⟩
  simp only [hr] at h ⊢
  by_cases he : e = 0
  · subst he
    simp only [if_true] at h ⊢
    by_cases hb : unzig n < l ∨ m < unzig n
    · rw [if_pos hb] at h
      cases h
    · rw [if_neg hb]
      simp only
      rw [zig_unzig]
      exact (numG_back hr).1
  · rw [if_neg he] at h
    exact absurd h he
theorem intT_put {l m v : Int} (h1 : l ≤ v) (h2 : v ≤ m) (h3 : -9223372036854775808 ≤ v) (h4 : v ≤ 9223372036854775807) (t : List UInt8) : intT l m (numL (zigN v) ++ t) = (0, v, t) := by
  unfold intT
  simp only [numG_put (zigN_lt h3 h4), if_true, unzig_zig]
  rw [if_neg (by omega)]

theorem fillQ_sound (l m : Int) : ∀ (q : List Nat) (x : Ins) (st : St), (∀ k ∈ q, k < 3) → q.Nodup → (fillQ l m q x st).2.1 = 0 → st.1 = 0 ∧ st.2 = intsF (q.map (nk (fillQ l m q x st).1)) ++ (fillQ l m q x st).2.2
  | [], x, st, _, _, h => ⟨h, by simp [fillQ, intsF]⟩
  | k :: q, x, st, hq, hn, h => by
    obtain ⟨hk, hn'⟩ := List.nodup_cons.1 hn
    have hq' : ∀ k ∈ q, k < 3 := fun k' h => hq k' (List.mem_cons_of_mem _ h)
    have hk3 := hq k List.mem_cons_self
    change (fillQ l m q (nset x k (getS (intT l m) 0 st).1) (getS (intT l m) 0 st).2).2.1 = 0 at h
    obtain ⟨h1, h2⟩ := fillQ_sound l m q _ _ hq' hn' h
    obtain ⟨g1, g2, g3⟩ := getS_ok h1
    refine ⟨g1, ?_⟩
    show st.2 = intsF ((k :: q).map (nk (fillQ l m q (nset x k (getS (intT l m) 0 st).1) (getS (intT l m) 0 st).2).1)) ++ (fillQ l m q (nset x k (getS (intT l m) 0 st).1) (getS (intT l m) 0 st).2).2.2
    rw [List.map_cons, intsF_cons, fillQ_keep l m hk3 q _ _ hq' hk, nset_same hk3, List.append_assoc, ← h2, g3]
    exact intT_back g2
theorem fillQ_put {l m : Int} {y : Ins} {t : List UInt8} : ∀ (q : List Nat) (x : Ins), (∀ k ∈ q, k < 3) → q.Nodup → (∀ k ∈ q, l ≤ nk y k ∧ nk y k ≤ m ∧ -9223372036854775808 ≤ nk y k ∧ nk y k ≤ 9223372036854775807) →
    (fillQ l m q x (0, intsF (q.map (nk y)) ++ t)).2 = (0, t) ∧ ∀ k ∈ q, nk (fillQ l m q x (0, intsF (q.map (nk y)) ++ t)).1 k = nk y k
  | [], x, _, _, _ => ⟨by simp [fillQ, intsF], fun k h => by cases h⟩
  | k :: q, x, hq, hn, hy => by
    obtain ⟨hk, hn'⟩ := List.nodup_cons.1 hn
    have hq' : ∀ k ∈ q, k < 3 := fun k' h => hq k' (List.mem_cons_of_mem _ h)
    have hk3 := hq k List.mem_cons_self
    obtain ⟨y1, y2, y3, y4⟩ := hy k List.mem_cons_self
    have e : getS (intT l m) 0 (0, intsF ((k :: q).map (nk y)) ++ t) = (nk y k, 0, intsF (q.map (nk y)) ++ t) := by
      unfold getS
      rw [if_pos rfl, List.map_cons, intsF_cons, List.append_assoc, intT_put y1 y2 y3 y4]
    have e2 : fillQ l m (k :: q) x (0, intsF ((k :: q).map (nk y)) ++ t) = fillQ l m q (nset x k (nk y k)) (0, intsF (q.map (nk y)) ++ t) := by
      show fillQ l m q (nset x k (getS (intT l m) 0 _).1) (getS (intT l m) 0 _).2 = _
      rw [e]
    rw [e2]
    obtain ⟨r1, r2⟩ := fillQ_put (l := l) (m := m) (y := y) (t := t) q (nset x k (nk y k)) hq' hn' (fun k' h => hy k' (List.mem_cons_of_mem _ h))
    refine ⟨r1, fun j hj => ?_⟩
    rcases List.mem_cons.1 hj with rfl | hj
    · rw [fillQ_keep l m hk3 q _ _ hq' hk, nset_same hk3]
    · exact r2 j hj

theorem usQ_lt (op : Int) : ∀ k ∈ usQ op, k < 3 := fun _ h => (usQ_mem h).1
theorem usQ_nodup (op : Int) : (usQ op).Nodup := by
  unfold usQ
  refine List.Nodup.sublist List.filter_sublist ?_
  unfold numQ
  split
  · decide
  · exact List.nodup_nil
theorem u8_back (c : UInt8) : UInt8.ofNat ((c.toNat : Int).toNat) = c := by simp
theorem nextP_sound {l m : Int} {st : St} (h : (nextP l m st).2.1 = 0) : st.1 = 0 ∧ st.2 = bytesI (nextP l m st).1 ++ (nextP l m st).2.2 := by
  unfold nextP at h ⊢
  obtain ⟨h1, h2⟩ := fillQ_sound l m _ _ _ (usQ_lt _) (usQ_nodup _) h
  obtain ⟨g1, g2, g3⟩ := getS_ok h1
  refine ⟨g1, ?_⟩
  unfold bytesI usedL
  rw [fillQ_op]
  rw [List.cons_append, ← h2, g3]
  show st.2 = UInt8.ofNat (((byteT st.2).2.1.toNat : Int).toNat) :: (byteT st.2).2.2
  rw [u8_back]
  cases hb : st.2 with
  | nil => rw [hb] at g2; cases g2
  | cons c t => rfl
theorem may_none {v n : Int} (h : mayB 45 v n = true) : v = 0 := by
  unfold mayB bdL at h
  simp at h
  omega
theorem good_unused {n : Int} {y : Ins} (h : goodB n y = true) {k : Nat} (hk : k < 3) (hn : k ∉ usQ y.1) : nk y k = 0 := by
  unfold goodB at h
  simp only [Bool.and_eq_true] at h
  obtain ⟨h0, h1, h2, h3⟩ := h
  have hs : sc y.1 k = 45 := Classical.byContradiction (fun e => hn (by
    unfold usQ numQ
    rw [h0]
    refine List.mem_filter.2 ⟨?_, by simpa using e⟩
    match k, hk with
    | 0, _ => simp
    | 1, _ => simp
    | 2, _ => simp))
  match k, hk with
  | 0, _ => rw [hs] at h1; exact may_none h1
  | 1, _ => rw [hs] at h2; exact may_none h2
  | 2, _ => rw [hs] at h3; exact may_none h3
theorem nextP_put {l m : Int} {n : Nat} {y : Ins} (hl : l ≤ -1099511627776) (hm : 1099511627776 ≤ m) (hn : n ≤ 64) (hg : goodB n y = true) (t : List UInt8) : nextP l m (0, bytesI y ++ t) = (y, 0, t) := by
  have hop : opB y.1 = true := by unfold goodB at hg; simp only [Bool.and_eq_true] at hg; exact hg.1
  obtain ⟨k0, hk0, hk27⟩ := opB_nat hop
  have e0 : opI (UInt8.ofNat y.1.toNat) = ((y.1, 0, 0, 0) : Ins) := by
    unfold opI
    rw [hk0, Int.toNat_natCast, u8_small (by omega)]
  have e : getS byteT 0 (0, bytesI y ++ t) = (UInt8.ofNat y.1.toNat, 0, intsF (usedL y) ++ t) := rfl
  unfold nextP
  rw [e, e0]
  simp only
  unfold usedL
  obtain ⟨r1, r2⟩ := fillQ_put (l := l) (m := m) (y := y) (t := t) (usQ y.1) (y.1, 0, 0, 0) (usQ_lt _) (usQ_nodup _) (fun k hk => by
    have := good_small hn hg (usQ_lt _ k hk)
    omega)
  refine Prod.ext ?_ r1
  refine ins_ext (fillQ_op _ _ _ _ _) (fun k hk => ?_)
  by_cases hu : k ∈ usQ y.1
  · exact r2 k hu
  · rw [fillQ_keep l m hk _ _ _ (usQ_lt _) hu, good_unused hg hk hu]
    match k, hk with
    | 0, _ => rfl
    | 1, _ => rfl
    | 2, _ => rfl

theorem drop_ins {p : List Ins} {i : Nat} (hip : i < p.length) : p.drop i = ins p i :: p.drop (i + 1) := by
  have h := ins_get hip
  rw [List.getElem?_eq_getElem hip] at h
  rw [List.drop_eq_getElem_cons hip, Option.some.inj h]
/-- How far a reading of b has come: i of n instructions. -/
structure Inv (b : List UInt8) (n i : Nat) (ps : List Ins) (st : St) : Prop where
  len : ps.length = i
  sound : st.1 = 0 → b = numL n ++ bytesP ps ++ st.2
  full : ∀ p, wholeB p = true → bytesL p = b → p.length = n ∧ ps = p.take i ∧ st = (0, bytesP (p.drop i))
theorem numT_put {n most : Nat} (h : n ≤ most) (h2 : n < 2 ^ 64) (t : List UInt8) : numT most (numL n ++ t) = (0, n, t) := by
  unfold numT
  simp only [numG_put h2, if_true]
  rw [if_neg (by omega)]
theorem numT_back {most : Nat} {bs : List UInt8} (h : (numT most bs).1 = 0) : bs = numL (numT most bs).2.1 ++ (numT most bs).2.2 ∧ (numT most bs).2.1 ≤ most := by
  unfold numT at h ⊢
  rcases hr : numG 0 0 bs with ⟨e, n, t⟩
  simp only [hr] at h ⊢
  by_cases he : e = 0
  · subst he
    simp only [if_true] at h ⊢
    by_cases hb : most < n
    · rw [if_pos hb] at h
      cases h
    · rw [if_neg hb]
      exact ⟨(numG_back hr).1, by simp only; omega⟩
  · rw [if_neg he] at h
    exact absurd h he
theorem inv_start (b : List UInt8) : Inv b (getS (numT 64) 0 (0, b)).1 0 [] (getS (numT 64) 0 (0, b)).2 := by
  have e : getS (numT 64) 0 (0, b) = ((numT 64 b).2.1, (numT 64 b).1, (numT 64 b).2.2) := rfl
  rw [e]
  refine ⟨rfl, fun h => ?_, fun p hw hb => ?_⟩
  · simpa [bytesP] using (numT_back h).1
  · obtain ⟨h64, _⟩ := wholeB_iff.1 hw
    have : numT 64 b = (0, p.length, bytesP p) := by rw [← hb]; exact numT_put h64 (by omega) _
    rw [this]
    exact ⟨rfl, rfl, rfl⟩
theorem inv_le (b : List UInt8) : (getS (numT 64) 0 (0, b)).1 ≤ 64 := by
  have e : getS (numT 64) 0 (0, b) = ((numT 64 b).2.1, (numT 64 b).1, (numT 64 b).2.2) := rfl
  rw [e]
  by_cases h : (numT 64 b).1 = 0
  · exact (numT_back h).2
  · have : (numT 64 b).2 = (0, []) := by
      unfold numT at h ⊢
      rcases hr : numG 0 0 b with ⟨e, n, t⟩
      simp only [hr] at h ⊢
      by_cases he : e = 0
      · subst he
        simp only [if_true] at h ⊢
        by_cases hb : 64 < n
        · rw [if_pos hb]
        · rw [if_neg hb] at h
          exact absurd rfl h
      · rw [if_neg he]
        have := numG_err b 0 0 (by rw [hr]; exact he)
        rw [hr] at this
        exact this
    simp only [this]
    omega
theorem Inv.step {b : List UInt8} {n i : Nat} {ps : List Ins} {st : St} (h : Inv b n i ps st) (hi : i < n) {l m : Int} (hl : l ≤ -1099511627776) (hm : 1099511627776 ≤ m) : Inv b n (i + 1) (ps ++ [(nextP l m st).1]) (nextP l m st).2 := by
  refine ⟨by simp [h.len], fun h0 => ?_, fun p hw hb => ?_⟩
  · obtain ⟨h1, h2⟩ := nextP_sound h0
    have h3 := h.sound h1
    rw [h2] at h3
    rw [h3]
    simp [bytesP]
  · obtain ⟨f1, f2, f3⟩ := h.full p hw hb
    obtain ⟨h64, hall⟩ := wholeB_iff.1 hw
    have hip : i < p.length := by omega
    have hd : p.drop i = ins p i :: p.drop (i + 1) := drop_ins hip
    have e : nextP l m st = (ins p i, 0, bytesP (p.drop (i + 1))) := by
      rw [f3, hd]
      exact nextP_put hl hm h64 (hall i hip) _
    rw [e]
    refine ⟨f1, ?_, rfl⟩
    rw [List.take_add_one, ins_get hip, f2]
    rfl

/-- What a reading of b comes to. -/
def Res (b : List UInt8) : Option (List Ins) → Prop
  | some p => wholeB p = true ∧ bytesL p = b
  | none => ∀ p, wholeB p = true → bytesL p ≠ b
theorem Inv.done {b : List UInt8} {n : Nat} {ps : List Ins} {st : St} (h : Inv b n n ps st) (h1 : st.1 = 0) (h2 : st.2 = []) (h3 : wholeB ps = true) : Res b (some ps) := by
  refine ⟨h3, ?_⟩
  have := h.sound h1
  rw [h2, List.append_nil] at this
  unfold bytesL
  rw [h.len, this]
theorem Inv.nope {b : List UInt8} {n : Nat} {ps : List Ins} {st : St} (h : Inv b n n ps st) (h1 : st.1 ≠ 0 ∨ st.2 ≠ [] ∨ wholeB ps = false) : Res b none := by
  intro p hw hb
  obtain ⟨f1, f2, f3⟩ := h.full p hw hb
  rw [← f1, List.take_length] at f2
  rw [← f1, List.drop_length] at f3
  subst f2 f3
  rcases h1 with h1 | h1 | h1
  · exact h1 rfl
  · exact h1 rfl
  · rw [hw] at h1; cases h1
/-- An error ahead of the end. -/
theorem Inv.stop {b : List UInt8} {n i : Nat} {ps : List Ins} {st : St} (h : Inv b n i ps st) (h1 : st.1 ≠ 0) : Res b none := by
  intro p hw hb
  obtain ⟨_, _, f3⟩ := h.full p hw hb
  rw [f3] at h1
  exact h1 rfl
theorem inv_run (b : List UInt8) (n : Nat) (st : St) (h : Inv b n 0 [] st) : ∀ i, i ≤ n → ∃ ps st', Inv b n i ps st'
  | 0, _ => ⟨_, _, h⟩
  | i + 1, hi => by
    obtain ⟨ps, st', h'⟩ := inv_run b n st h i (by omega)
    exact ⟨_, _, h'.step (l := -1099511627776) (m := 1099511627776) (by omega) (by omega) (by omega)⟩
theorem bytesL_inj {p q : List Ins} (hp : wholeB p = true) (hq : wholeB q = true) (h : bytesL p = bytesL q) : p = q := by
  obtain ⟨ps, st, hi⟩ := inv_run (bytesL q) _ _ (inv_start (bytesL q)) _ (Nat.le_refl _)
  obtain ⟨p1, p2, _⟩ := hi.full p hp h
  obtain ⟨q1, q2, _⟩ := hi.full q hq rfl
  rw [← p1, List.take_length] at p2
  rw [← q1, List.take_length] at q2
  rw [← p2, ← q2]
theorem Res.same {b : List UInt8} : ∀ {o o' : Option (List Ins)}, Res b o → Res b o' → o = o'
  | some p, some q, h, h' => by rw [bytesL_inj h.1 h'.1 (h.2.trans h'.2.symm)]
  | some p, none, h, h' => absurd h.2 (h' p h.1)
  | none, some q, h, h' => absurd h'.2 (h q h'.1)
  | none, none, _, _ => rfl
/-- The op that is read is one, where there is a program. -/
theorem Inv.op {b : List UInt8} {n i : Nat} {ps : List Ins} {st : St} (h : Inv b n i ps st) (hi : i < n) (h1 : opB (opI (getS byteT 0 st).1).1 = false) : Res b none := by
  intro p hw hb
  obtain ⟨f1, _, f3⟩ := h.full p hw hb
  obtain ⟨h64, hall⟩ := wholeB_iff.1 hw
  have hip : i < p.length := by omega
  have hg := hall i hip
  have hop : opB (ins p i).1 = true := by unfold goodB at hg; simp only [Bool.and_eq_true] at hg; exact hg.1
  obtain ⟨k0, hk0, hk27⟩ := opB_nat hop
  have hd : p.drop i = ins p i :: p.drop (i + 1) := drop_ins hip
  rw [f3, hd] at h1
  have e : opI (getS byteT 0 (0, bytesP (ins p i :: p.drop (i + 1)))).1 = (((ins p i).1, 0, 0, 0) : Ins) := by
    show opI (UInt8.ofNat (ins p i).1.toNat) = _
    unfold opI
    rw [hk0, Int.toNat_natCast, u8_small (by omega)]
  rw [e] at h1
  rw [show ((((ins p i).1, 0, 0, 0) : Ins)).1 = (ins p i).1 from rfl, hop] at h1
  cases h1

end Go.Proofs.YtbcdjpafdmgbmaaGreatDoor
namespace Go.Proofs.YtbcdjpafdmgbmaaGreatDoor
open Go.RowKit

theorem numG_eats {bs t : List UInt8} {n : Nat} (h : numG 0 0 bs = (0, n, t)) : t.length + 1 ≤ bs.length := by
  obtain ⟨e, hn⟩ := numG_back h
  rw [e, List.length_append, numL_nine hn]
  have := numF_pos 9 n
  omega
theorem numT_ok {most : Nat} {bs t : List UInt8} {n : Nat} (e : numT most bs = (0, n, t)) : numG 0 0 bs = (0, n, t) ∧ n ≤ most := by
  unfold numT at e
  simp only at e
  split at e
  · split at e
    · cases e
    · rename_i h
      rw [e] at h
      exact ⟨e, by simp only at h; omega⟩
  · rename_i h
    rw [e] at h
    exact absurd rfl h
theorem intT_eats {least most : Int} {bs : List UInt8} (h : (intT least most bs).1 = 0) : (intT least most bs).2.2.length + 1 ≤ bs.length := by
  unfold intT at h ⊢
  simp only at h ⊢
  by_cases h0 : (numG 0 0 bs).1 = 0
  · have e : numG 0 0 bs = (0, (numG 0 0 bs).2.1, (numG 0 0 bs).2.2) := Prod.ext h0 rfl
    have := numG_eats e
    rw [if_pos h0] at h ⊢
    split at h
    · cases h
    · rename_i hn
      rw [if_neg hn]
      exact this
  · rw [if_neg h0] at h
    exact absurd h h0

theorem But.of_grown {w w' : World} {row : Option Nat} (h : w.grownBy w' row) : But row.toList w w' :=
  ⟨h.os, h.tape, h.output, h.size, fun k hk hn => h.block k hk (fun e => hn (by rw [← e]; simp))⟩
theorem SR.grown {w w' : World} {B x : Nat} {bs : List UInt8} {row : Option Nat} (h : SR w B x bs) (hg : w.grownBy w' row) (hr : ∀ k, row = some k → B < k) : SR w' B x bs :=
  h.but (But.of_grown hg) (fun y hy => hr y (by simpa using hy))

/-- Ints ahead of what others tell. -/
def joinI (xs : List Int) (q : Nat × List Int × List UInt8) : Nat × List Int × List UInt8 := if q.1 = 0 then (0, xs ++ q.2.1, q.2.2) else (q.1, [], [])
theorem joinI_nil (least most : Int) (n : Nat) (bs : List UInt8) : joinI [] (intsG least most n bs) = intsG least most n bs := by
  unfold joinI
  split
  · rename_i h
    rw [← h]
    simp
  · rename_i h
    cases n with
    | zero => exact absurd rfl h
    | succ n =>
      unfold intsG at h ⊢
      simp only at h ⊢
      split
      · rename_i h1
        rw [if_pos h1] at h
        split
        · rename_i h2
          rw [if_pos h2] at h
          exact absurd rfl h
        · rfl
      · rfl
theorem joinI_ok {least most : Int} {n : Nat} {bs : List UInt8} {xs : List Int} (h : (intT least most bs).1 = 0) : joinI xs (intsG least most (n + 1) bs) = joinI (xs ++ [(intT least most bs).2.1]) (intsG least most n (intT least most bs).2.2) := by
  have e : intsG least most (n + 1) bs = if (intsG least most n (intT least most bs).2.2).1 = 0 then (0, (intT least most bs).2.1 :: (intsG least most n (intT least most bs).2.2).2.1, (intsG least most n (intT least most bs).2.2).2.2) else ((intsG least most n (intT least most bs).2.2).1, [], []) := by
    show (if (intT least most bs).1 = 0 then _ else _) = _
    rw [if_pos h]
  rw [e]
  unfold joinI
  by_cases h1 : (intsG least most n (intT least most bs).2.2).1 = 0
  · rw [if_pos h1, if_pos h1]
    simp
  · rw [if_neg h1, if_neg h1]
    simp [h1]
theorem joinI_no {least most : Int} {n : Nat} {bs : List UInt8} {xs : List Int} (h : (intT least most bs).1 ≠ 0) : joinI xs (intsG least most (n + 1) bs) = ((intT least most bs).1, [], []) := by
  have e : intsG least most (n + 1) bs = ((intT least most bs).1, [], []) := by
    show (if (intT least most bs).1 = 0 then _ else _) = _
    rw [if_neg h]
  rw [e]
  simp [joinI, h]
theorem joinI_end (least most : Int) (bs : List UInt8) (xs : List Int) : joinI xs (intsG least most 0 bs) = (0, xs, bs) := by simp [joinI, intsG]

section
variable {B : Nat} {bs : List UInt8} {w : World} {b0 b1 b2 b3 : Nat}

end

end Go.Proofs.YtbcdjpafdmgbmaaGreatDoor
