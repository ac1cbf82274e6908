/- No program's bytes are the first of another's, plain. -/
import Derived.Test.YtbcdjpafdmgbmaaDoorParM
namespace Go.Proofs.YtbcdjpafdmgbmaaDoor

/-- How far a reading has come, whatever follows. -/
def InvT (b : List UInt8) (n i : Nat) (ps : List Ins) (st : St) : Prop :=
  ∀ p t, wholeB p = true → bytesL p ++ t = b → p.length = n ∧ ps = p.take i ∧ st = (0, bytesP (p.drop i) ++ t)
theorem invT_start (b : List UInt8) : InvT b (getS (numT 64) 0 (0, b)).1 0 [] (getS (numT 64) 0 (0, b)).2 := by
  have e : getS (numT 64) 0 (0, b) = ((numT 64 b).2.1, (numT 64 b).1, (numT 64 b).2.2) := rfl
  rw [e]
  intro p t hw hb
  obtain ⟨h64, _⟩ := wholeB_iff.1 hw
  have : numT 64 b = (0, p.length, bytesP p ++ t) := by
    rw [← hb]
    unfold bytesL
    rw [List.append_assoc]
    exact numT_put h64 (by omega) _
  rw [this]
  exact ⟨rfl, rfl, rfl⟩
theorem InvT.step {b : List UInt8} {n i : Nat} {ps : List Ins} {st : St} (h : InvT b n i ps st) (hi : i < n) {l m : Int} (hl : l ≤ -1099511627776) (hm : 1099511627776 ≤ m) : InvT b n (i + 1) (ps ++ [(nextP l m st).1]) (nextP l m st).2 := by
  intro p t hw hb
  obtain ⟨f1, f2, f3⟩ := h p t hw hb
  obtain ⟨h64, hall⟩ := wholeB_iff.1 hw
  have hip : i < p.length := by omega
  have e : nextP l m st = (ins p i, 0, bytesP (p.drop (i + 1)) ++ t) := by
    rw [f3, drop_ins hip]
    show nextP l m (0, bytesI (ins p i) ++ bytesP (p.drop (i + 1)) ++ t) = _
    rw [List.append_assoc]
    exact nextP_put hl hm h64 (hall i hip) _
  rw [e]
  refine ⟨f1, ?_, rfl⟩
  rw [List.take_add_one, ins_get hip, f2]
  rfl
theorem invT_run (b : List UInt8) (n : Nat) (st : St) (h : InvT b n 0 [] st) : ∀ i, i ≤ n → ∃ ps st', InvT b n i ps st'
  | 0, _ => ⟨_, _, h⟩
  | i + 1, hi => by
    obtain ⟨ps, st', h'⟩ := invT_run b n st h i (by omega)
    exact ⟨_, _, h'.step (l := -1099511627776) (m := 1099511627776) (by omega) (by omega) (by omega)⟩
theorem first_of_none {p q : List Ins} {t : List UInt8} (hp : wholeB p = true) (hq : wholeB q = true) (h : bytesL q ++ t = bytesL p) : t = [] := by
  obtain ⟨ps, st, hi⟩ := invT_run (bytesL p) _ _ (invT_start (bytesL p)) _ (Nat.le_refl _)
  obtain ⟨p1, _, p3⟩ := hi p [] hp (List.append_nil _)
  obtain ⟨q1, _, q3⟩ := hi q t hq h
  rw [← p1, List.drop_length] at p3
  rw [← q1, List.drop_length] at q3
  rw [p3] at q3
  simpa [bytesP] using (congrArg Prod.snd q3).symm
/-- Bytes that are cut are none; nor are those with one more. -/
theorem cut_none {p : List Ins} (hp : wholeB p = true) {k : Nat} (hk : k < (bytesL p).length) : Res ((bytesL p).take k) none := by
  intro q hq hb
  have h : bytesL q ++ (bytesL p).drop k = bytesL p := by rw [hb, List.take_append_drop]
  have := first_of_none hp hq h
  have := congrArg List.length this
  rw [List.length_drop] at this
  simp at this
  omega
theorem more_none {p : List Ins} (hp : wholeB p = true) (x : UInt8) : Res (bytesL p ++ [x]) none := by
  intro q hq hb
  have := first_of_none hq hp hb.symm
  cases this
theorem res_none {b : List UInt8} {o : Option (List Ins)} (h : Res b none) (h' : Res b o) : o = none := (h.same h').symm

end Go.Proofs.YtbcdjpafdmgbmaaDoor
