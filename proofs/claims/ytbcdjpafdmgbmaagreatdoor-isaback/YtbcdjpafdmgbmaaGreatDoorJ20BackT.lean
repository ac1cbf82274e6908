/- The reference's used. -/
/- The reference's of: an instruction of an operation and the numbers that are used. -/
import Derived.Test.YtbcdjpafdmgbmaaGreatDoorJ19BackT
import Derived.Test.YtbcdjpafdmgbmaaGreatDoorJ16BackT
import Derived.Test.YtbcdjpafdmgbmaaGreatDoorJ05BackT
import Derived.Test.YtbcdjpafdmgbmaaGreatDoorJ17BackT
namespace Go.Proofs.YtbcdjpafdmgbmaaGreatDoor
open Go.RowKit

/-- The places of those of the first k numbers that are used. -/
def usK (op : Int) (k : Nat) : List Nat := ([0, 1, 2].take k).filter (fun j => sc op j != 45)
theorem usK_zero (op : Int) : usK op 0 = [] := rfl
theorem usK_skip {op : Int} {k : Nat} (hk : k < 3) (h : sc op k = 45) : usK op (k + 1) = usK op k := by
  unfold usK
  match k, hk with
  | 0, _ => simp [h]
  | 1, _ => simp [List.take, h, List.filter_cons]
  | 2, _ => simp [List.take, h, List.filter_cons]
theorem usK_more {op : Int} {k : Nat} (hk : k < 3) (h : sc op k ≠ 45) : usK op (k + 1) = usK op k ++ [k] := by
  unfold usK
  rw [List.take_add_one, List.filter_append]
  congr 1
  match k, hk with
  | 0, _ => simp [h]
  | 1, _ => simp [h]
  | 2, _ => simp [h]
theorem usK_all {op : Int} (h : opB op = true) : usK op 3 = usQ op := by
  unfold usK usQ numQ
  rw [h]
  rfl
theorem usK_len (op : Int) (k : Nat) : (usK op k).length ≤ 3 := by
  unfold usK
  refine Nat.le_trans (List.length_filter_le _ _) ?_
  rw [List.length_take]
  simp
  omega
theorem row_sl {w : World} {base k : Nat} {v : Value} {q : List Int} (h : RowI w base v q) (hk : q.length = k) : ∃ a c, v = .slice a k c := by
  subst hk
  exact own_shape h

end Go.Proofs.YtbcdjpafdmgbmaaGreatDoor
namespace Go.Proofs.YtbcdjpafdmgbmaaGreatDoor
open Go.RowKit

/-- Numbers set, one by one. -/
def setQ (q : List Nat) (vs : List Int) (x : Ins) : Ins := (q.zip vs).foldl (fun x kv => nset x kv.1 kv.2) x
theorem zip_more {q : List Nat} {k : Nat} {v : Int} : ∀ {vs : List Int}, vs[q.length]? = some v → (q ++ [k]).zip vs = q.zip vs ++ [(k, v)] := by
  induction q with
  | nil =>
    intro vs h
    cases vs with
    | nil => simp at h
    | cons a vs => simp at h; simp [h]
  | cons a q ih =>
    intro vs h
    cases vs with
    | nil => simp at h
    | cons b vs => simp only [List.length_cons, List.getElem?_cons_succ] at h; simp [ih h]
theorem setQ_more {q : List Nat} {vs : List Int} {k : Nat} {v : Int} (h : vs[q.length]? = some v) (x : Ins) : setQ (q ++ [k]) vs x = nset (setQ q vs x) k v := by
  unfold setQ
  rw [zip_more h, List.foldl_append]
  rfl
theorem setQ_op (q : List Nat) (vs : List Int) (x : Ins) : (setQ q vs x).1 = x.1 := by
  unfold setQ
  generalize q.zip vs = l
  induction l generalizing x with
  | nil => rfl
  | cons a l ih => rw [List.foldl_cons, ih, nset_op]
/-- Three numbers in cells. -/
def arrC (y : Ins) : Array Value := #[.int .i64 y.2.1, .int .i64 y.2.2.1, .int .i64 y.2.2.2]
theorem arrC_set (y : Ins) {k : Nat} (hk : k < 3) (v : Int) : (arrC y).setIfInBounds k (.int .i64 v) = arrC (nset y k v) := by
  match k, hk with
  | 0, _ => rfl
  | 1, _ => rfl
  | 2, _ => rfl
/-- Readings, one behind the other. -/
def readN (l m : Int) : Nat → St → List Int × St
  | 0, st => ([], st)
  | n + 1, st => ((readN l m n st).1 ++ [(getS (intT l m) 0 (readN l m n st).2).1], (getS (intT l m) 0 (readN l m n st).2).2)
theorem readN_len (l m : Int) (st : St) : ∀ n, (readN l m n st).1.length = n
  | 0 => rfl
  | n + 1 => by simp [readN, readN_len l m st n]
theorem fill_read (l m : Int) (q : List Nat) (x : Ins) (st : St) : ∀ n, n ≤ q.length → fillQ l m (q.take n) x st = (setQ (q.take n) (readN l m n st).1 x, (readN l m n st).2)
  | 0, _ => rfl
  | n + 1, h => by
    have hk : q[n]? = some q[n] := List.getElem?_eq_getElem (by omega)
    have hl : (q.take n).length = n := by rw [List.length_take]; omega
    have hr := readN_len l m st n
    rw [fillQ_succ l m hk, fill_read l m q x st n (by omega)]
    refine Prod.ext ?_ rfl
    show nset (setQ (q.take n) (readN l m n st).1 x) q[n] _ = setQ (q.take (n + 1)) ((readN l m n st).1 ++ [(getS (intT l m) 0 (readN l m n st).2).1]) x
    rw [List.take_add_one, hk]
    show _ = setQ (q.take n ++ [q[n]]) _ x
    unfold setQ
    rw [List.zip_append (by rw [hl, hr]), List.foldl_append]
    rfl
theorem next_read (l m : Int) (st : St) : nextP l m st = (setQ (usQ (opI (getS byteT 0 st).1).1) (readN l m (usQ (opI (getS byteT 0 st).1).1).length (getS byteT 0 st).2).1 (opI (getS byteT 0 st).1), (readN l m (usQ (opI (getS byteT 0 st).1).1).length (getS byteT 0 st).2).2) := by
  unfold nextP
  have := fill_read l m (usQ (opI (getS byteT 0 st).1).1) (opI (getS byteT 0 st).1) (getS byteT 0 st).2 _ (Nat.le_refl _)
  rw [List.take_length] at this
  exact this
theorem usK_sub (op : Int) {i : Nat} (hi : i < 3) (h : sc op i ≠ 45) : (usK op i).length < (usK op 3).length := by
  have h1 := usK_more hi h
  have h3 : (usK op (i + 1)).length ≤ (usK op 3).length := by
    unfold usK
    exact List.Sublist.length_le (List.Sublist.filter _ (List.take_sublist _ _))
  rw [h1, List.length_append] at h3
  simp at h3
  omega

end Go.Proofs.YtbcdjpafdmgbmaaGreatDoor
