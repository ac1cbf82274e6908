/- The contract of the reference's Text. -/
import Derived.Test.YtgoedlgilgnphaaDoorDigits
import Derived.Test.YtgoedlgilgnphaaDoorRefM
namespace Go.Proofs.YtgoedlgilgnphaaDoor
open Go.RowKit Go.Shelf

/-- The texts of the runs that begin below i; the text of these. -/
def partsF (m i : Nat) : List (List UInt8) := ((starts m).filter (fun x => decide (x < i))).map (fun x => partL x (endN m x))
def txt (m i : Nat) : List UInt8 := Lib.join (partsF m i) [44]

theorem filter_snoc : ∀ {l : List Nat}, l.Pairwise (· < ·) → ∀ i, l.filter (fun x => decide (x < i + 1)) = l.filter (fun x => decide (x < i)) ++ (if i ∈ l then [i] else [])
  | [], _, i => by simp
  | x :: l, h, i => by
    have ih := filter_snoc (List.pairwise_cons.1 h).2 i
    have hx := (List.pairwise_cons.1 h).1
    rw [List.filter_cons, List.filter_cons]
    by_cases h1 : x < i
    · rw [if_pos (by simp; omega), if_pos (by simpa using h1), ih, List.cons_append]
      congr 2
      by_cases h2 : i ∈ l
      · simp [h2]
      · have : ¬ (i = x) := by omega
        simp [h2, this]
    · by_cases h2 : x = i
      · subst h2
        have hl : x ∉ l := fun h' => by have := hx x h'; omega
        have h3 : l.filter (fun y => decide (y < x + 1)) = [] := by
          rw [List.filter_eq_nil_iff]; intro y hy; have := hx y hy; simp; omega
        have h4 : l.filter (fun y => decide (y < x)) = [] := by
          rw [List.filter_eq_nil_iff]; intro y hy; have := hx y hy; simp; omega
        rw [if_pos (by simp), if_neg (by simp), h3, h4]
        simp
      · have hl : i ∉ l := fun h' => by have := hx i h'; omega
        have h3 : i ∉ x :: l := by simp [hl]; omega
        rw [if_neg (by simp; omega), if_neg (by simpa using h1), ih, if_neg hl, if_neg h3]

theorem partsF_step (m i : Nat) : partsF m (i + 1) = partsF m i ++ (if i ∈ starts m then [partL i (endN m i)] else []) := by
  unfold partsF
  rw [filter_snoc (starts_sorted m), List.map_append]
  congr 1
  split <;> rfl
theorem partsF_end (m : Nat) : partsF m 64 = partsL (runsS m) := by
  unfold partsF partsL runsS
  rw [List.filter_eq_self.2 (fun x hx => by simpa using starts_lt x hx), List.map_pmap]
  simp
theorem join_snoc (ps : List (List UInt8)) (p : List UInt8) : Lib.join (ps ++ [p]) [44] = if ps = [] then p else Lib.join ps [44] ++ 44 :: p := by
  cases ps with
  | nil => simp [Lib.join_one]
  | cons x r => simp [Lib.join_cons, Lib.joinTail]
theorem partL_ne (a b : Nat) (ha : a < 64) : partL a b ≠ [] := by
  unfold partL
  have h := (dd_val ⟨a, ha⟩).2.2
  rw [← dd_eq ha] at h
  split
  · exact h
  · simp
theorem txt_nil (m i : Nat) : txt m i = [] ↔ partsF m i = [] := by
  constructor
  · intro h
    unfold txt at h
    cases hp : partsF m i with
    | nil => rfl
    | cons x r =>
      exfalso
      rw [hp, Lib.join_cons] at h
      have hx : x = [] := (List.append_eq_nil_iff.1 h).1
      have : x ∈ partsF m i := by rw [hp]; simp
      unfold partsF at this
      obtain ⟨y, hy, rfl⟩ := List.mem_map.1 this
      exact partL_ne _ _ (starts_lt y (List.mem_filter.1 hy).1) hx
  · intro h; unfold txt; rw [h]; rfl
theorem txt_step (m i : Nat) (h : i ∈ starts m) : txt m (i + 1) = if txt m i = [] then partL i (endN m i) else txt m i ++ 44 :: partL i (endN m i) := by
  have e : txt m (i + 1) = Lib.join (partsF m i ++ [partL i (endN m i)]) [44] := by unfold txt; rw [partsF_step, if_pos h]
  rw [e, join_snoc]
  by_cases hp : partsF m i = []
  · rw [if_pos hp, if_pos ((txt_nil m i).2 hp)]
  · rw [if_neg hp, if_neg (fun h => hp ((txt_nil m i).1 h))]; rfl
theorem txt_same (m i : Nat) (h : i ∉ starts m) : txt m (i + 1) = txt m i := by
  unfold txt; rw [partsF_step, if_neg h, List.append_nil]
theorem txt_len (m i : Nat) : (txt m i).length ≤ 6 * (partsF m i).length := by
  unfold txt
  have hb : ∀ p ∈ partsF m i, p.length ≤ 5 := by
    intro p hp
    unfold partsF at hp
    obtain ⟨y, hy, rfl⟩ := List.mem_map.1 hp
    exact partL_length _ _ (starts_lt y (List.mem_filter.1 hy).1) (endN_lt _ _)
  generalize partsF m i = l at hb
  have ht : ∀ l : List (List UInt8), (∀ p ∈ l, p.length ≤ 5) → (Lib.joinTail [44] l).length ≤ 6 * l.length := by
    intro l
    induction l with
    | nil => intro _; simp [Lib.joinTail]
    | cons x r ih =>
      intro h
      have h1 := ih (fun p hp => h p (by simp [hp]))
      have h2 := h x (by simp)
      simp only [Lib.joinTail] at h1 ⊢
      simp
      simp at h1
      omega
  cases l with
  | nil => simp [Lib.join_nil]
  | cons x r =>
    rw [Lib.join_cons, List.length_append]
    have h1 := ht r (fun p hp => hb p (by simp [hp]))
    have h2 := hb x (by simp)
    simp
    omega
theorem partsF_len (m i : Nat) : (partsF m i).length ≤ 64 := by
  unfold partsF
  rw [List.length_map]
  have h1 := List.length_filter_le (fun x => decide (x < i)) (starts m)
  have h2 : (starts m).length ≤ (mem m).length := List.length_filter_le _ _
  have h3 := mem_length_le m
  omega

theorem starts_has (m i : Nat) (hi : i < 64) : i ∈ starts m ↔ hasB m (i : Int) = true ∧ hasB m ((i : Int) - 1) = false := by
  rw [mem_starts, mem_mem]
  unfold hasB
  have e0 : ((i : Int)).toNat = i := by omega
  rw [e0]
  cases i with
  | zero => simp
  | succ k =>
    have e1 : (((k + 1 : Nat) : Int) - 1).toNat = k := by omega
    have d1 : decide (0 ≤ ((k + 1 : Nat) : Int) ∧ ((k + 1 : Nat) : Int) < 64) = true := by simp; omega
    have d2 : decide (0 ≤ ((k + 1 : Nat) : Int) - 1 ∧ ((k + 1 : Nat) : Int) - 1 < 64) = true := by simp; omega
    rw [e1, d1, d2]
    simp [hi]

theorem ends_has {m i k : Nat} (hm : m < 18446744073709551616) (hi : i ∈ starts m) (h1 : i ≤ k) (h2 : k ≤ endN m i) : (k < endN m i → hasB m ((k : Int) + 1) = true) ∧ (k = endN m i → hasB m ((k : Int) + 1) = false) := by
  obtain ⟨s1, s2, s3, s4⟩ := endN_spec hm (mem_starts.1 hi).1
  have e : ((k : Int) + 1).toNat = k + 1 := by omega
  unfold hasB
  rw [e]
  constructor
  · intro h
    have := s3 (k + 1) (by omega) (by omega)
    simp [this]
    omega
  · rintro rfl
    rcases s4 with h | h
    · simp; omega
    · simp [h]

set_option maxRecDepth 100000 in
set_option maxHeartbeats 2000000 in
theorem rtext_any (m : Nat) (hm : m < 18446744073709551616) (w : World) :
    Calls Tryd.prog 36 #[.int .u64 m] w fun e w' => e = .returned (.string ⟨(textL m).toArray⟩) ∧ w' = w := by
  by_cases h0 : m = 0
  · subst h0
    rw [text_zero]
    go_enter Tryd.func36, Tryd.ntmps36
    go_wp2_with fail
    go_ret
    exact ⟨rfl, rfl⟩
  · have et : textL m = txt m 64 := by unfold textL txt; rw [if_neg h0, partsF_end]
    rw [et]
    have hm0 : ((m : Int) == 0) = false := by simp; omega
    have H := fun (x : Int) W => rhas_any m x hm W
    clear h0 et
    go_enter Tryd.func36, Tryd.ntmps36
    go_wp2_with fail
    go_loopw [3, 4] (fun v q wr => ∃ i : Nat, i ≤ 64 ∧ q = .int .i64 i ∧ v = .string ⟨(txt m i).toArray⟩ ∧ wr = w) (fun _ q _ => 64 - (intOf q).toNat)
    case atStart =>
      have e0 : txt m 0 = [] := (txt_nil m 0).2 (by unfold partsF; simp)
      exact ⟨0, by omega, rfl, by rw [e0], rfl⟩
    case round =>
      obtain ⟨i, hi, rfl, rfl, hw⟩ := hrel
      subst wr
      by_cases hlt : i < 64
      · have h3 : (i : Int) < 64 := by omega
        by_cases hs : i ∈ starts m
        · obtain ⟨a1, a2⟩ := (starts_has m i hlt).1 hs
          have hst := txt_step m i hs
          have hE := fun k h1 h2 => ends_has (k := k) hm hs h1 h2
          have he1 := (endN_spec hm (mem_starts.1 hs).1).1
          have he2 := endN_lt m i
          have hlen : (txt m i).length ≤ 384 := by have := txt_len m i; have := partsF_len m i; omega
          have DG := fun (x : Nat) (hx : x < 64) W => digits_any x hx W
          have D1 := DG i hlt
          have D2 := DG (endN m i) he2
          rw [← dd_eq hlt] at D1
          rw [← dd_eq he2] at D2
          have l1 := digits_le i (by omega)
          have l2 := digits_le (endN m i) (by omega)
          have hpt : partL i (endN m i) = if i = endN m i then Lib.decDigits i else Lib.decDigits i ++ 45 :: Lib.decDigits (endN m i) := rfl
          rw [hpt] at hst
          have HST : Hid (txt m (i + 1) = if txt m i = [] then (if i = endN m i then Lib.decDigits i else Lib.decDigits i ++ 45 :: Lib.decDigits (endN m i)) else txt m i ++ 44 :: (if i = endN m i then Lib.decDigits i else Lib.decDigits i ++ 45 :: Lib.decDigits (endN m i))) := hst
          clear hst hpt DG
          generalize endN m i = E at *
          generalize Lib.decDigits i = x at *
          generalize Lib.decDigits E = y at *
          generalize txt m i = S at *
          go_wp2_with (first
            | (go_at_call 11; refine (H _ _).mono ?_; rintro e w' ⟨rfl, hw⟩; subst w'))
          go_loopw [5] (fun v wx => ∃ k : Nat, i ≤ k ∧ k ≤ E ∧ v = .int .i64 k ∧ wx = w) (fun v _ => 64 - (intOf v).toNat)
          case atStart => exact ⟨i, Nat.le_refl _, he1, rfl, rfl⟩
          case round =>
            obtain ⟨k, hk1, hk2, rfl, hw⟩ := hrel
            subst wr
            by_cases hkE : k < E
            · have hh := (hE k hk1 hk2).1 hkE
              go_wp2_with (first
                | (go_at_call 11; refine (H _ _).mono ?_; rintro e w' ⟨rfl, hw⟩; subst w'))
              go_roundw
              case rel => exact ⟨k + 1, by omega, by omega, by simp, trivial⟩
              case measure =>
                simp [intOf]
                omega
            · obtain rfl : k = E := by omega
              have hh := (hE k hk1 hk2).2 rfl
              clear hE
              by_cases hik : i = k
              · subst hik
                by_cases hS : S = []
                · subst hS
                  have HT : Hid (txt m (i + 1) = x) := by have := HST.out; unfold Hid; simpa using this
                  clear HST
                  go_wp2_with (first
                    | (go_at_call 11; refine (H _ _).mono ?_; rintro e w' ⟨rfl, hw⟩; subst w')
                    | (go_at_call 48; (with_reducible refine (D1 _).mono ?_); rintro e w' ⟨rfl, hw⟩; subst w')
                    | (go_at_call 48; (with_reducible refine (D2 _).mono ?_); rintro e w' ⟨rfl, hw⟩; subst w'))
                  go_roundw
                  case rel =>
                    refine ⟨i + 1, by omega, by simp, ?_, trivial⟩
                    show Value.string ((⟨([] : List UInt8).toArray⟩ : ByteArray) ++ (⟨x.toArray⟩ : ByteArray)) = _
                    rw [ba_append, HT.out]
                    simp
                  case measure =>
                    simp [intOf]
                    omega
                · have hSb : (S == []) = false := by simpa using hS
                  have HT : Hid (txt m (i + 1) = S ++ 44 :: x) := by have := HST.out; unfold Hid; simpa [hS] using this
                  clear HST
                  go_wp2_with (first
                    | (go_at_call 11; refine (H _ _).mono ?_; rintro e w' ⟨rfl, hw⟩; subst w')
                    | (go_at_call 48; (with_reducible refine (D1 _).mono ?_); rintro e w' ⟨rfl, hw⟩; subst w')
                    | (go_at_call 48; (with_reducible refine (D2 _).mono ?_); rintro e w' ⟨rfl, hw⟩; subst w'))
                  go_roundw
                  case rel =>
                    refine ⟨i + 1, by omega, by simp, ?_, trivial⟩
                    show Value.string ((⟨S.toArray⟩ : ByteArray) ++ (⟨[44].toArray⟩ : ByteArray) ++ (⟨x.toArray⟩ : ByteArray)) = _
                    rw [ba_append, ba_append, HT.out]
                    simp
                  case measure =>
                    simp [intOf]
                    omega
              · have hik' : (i : Int) < (k : Int) := by omega
                by_cases hS : S = []
                · subst hS
                  have HT : Hid (txt m (i + 1) = x ++ 45 :: y) := by have := HST.out; unfold Hid; simpa [hik] using this
                  clear HST
                  go_wp2_with (first
                    | (go_at_call 11; refine (H _ _).mono ?_; rintro e w' ⟨rfl, hw⟩; subst w')
                    | (go_at_call 48; (with_reducible refine (D1 _).mono ?_); rintro e w' ⟨rfl, hw⟩; subst w')
                    | (go_at_call 48; (with_reducible refine (D2 _).mono ?_); rintro e w' ⟨rfl, hw⟩; subst w'))
                  go_roundw
                  case rel =>
                    refine ⟨i + 1, by omega, by simp, ?_, trivial⟩
                    show Value.string ((⟨([] : List UInt8).toArray⟩ : ByteArray) ++ (⟨x.toArray⟩ : ByteArray) ++ ((⟨[45].toArray⟩ : ByteArray) ++ (⟨y.toArray⟩ : ByteArray))) = _
                    rw [ba_append, ba_append, ba_append, HT.out]
                    simp
                  case measure =>
                    simp [intOf]
                    omega
                · have hSb : (S == []) = false := by simpa using hS
                  have HT : Hid (txt m (i + 1) = S ++ 44 :: (x ++ 45 :: y)) := by have := HST.out; unfold Hid; simpa [hS, hik] using this
                  clear HST
                  go_wp2_with (first
                    | (go_at_call 11; refine (H _ _).mono ?_; rintro e w' ⟨rfl, hw⟩; subst w')
                    | (go_at_call 48; (with_reducible refine (D1 _).mono ?_); rintro e w' ⟨rfl, hw⟩; subst w')
                    | (go_at_call 48; (with_reducible refine (D2 _).mono ?_); rintro e w' ⟨rfl, hw⟩; subst w'))
                  go_roundw
                  case rel =>
                    refine ⟨i + 1, by omega, by simp, ?_, trivial⟩
                    show Value.string ((⟨S.toArray⟩ : ByteArray) ++ (⟨[44].toArray⟩ : ByteArray) ++ (⟨x.toArray⟩ : ByteArray) ++ ((⟨[45].toArray⟩ : ByteArray) ++ (⟨y.toArray⟩ : ByteArray))) = _
                    rw [ba_append, ba_append, ba_append, ba_append, HT.out]
                    simp
                  case measure =>
                    simp [intOf]
                    omega
        · have hsm := txt_same m i hs
          have HS : Hid (txt m (i + 1) = txt m i) := hsm
          have hn := fun h => hs ((starts_has m i hlt).2 h)
          clear hsm
          cases a1 : hasB m (i : Int) with
          | false =>
            go_wp2_with (first
              | (go_at_call 11; refine (H _ _).mono ?_; rintro e w' ⟨rfl, hw⟩; subst w'))
            go_roundw
            case rel => exact ⟨i + 1, by omega, by simp, by rw [HS.out], trivial⟩
            case measure =>
              simp [intOf]
              omega
          | true =>
            have a2 : hasB m ((i : Int) - 1) = true := by
              cases h : hasB m ((i : Int) - 1) with
              | true => rfl
              | false => exact absurd ⟨a1, h⟩ hn
            clear hn
            go_wp2_with (first
              | (go_at_call 11; refine (H _ _).mono ?_; rintro e w' ⟨rfl, hw⟩; subst w'))
            go_roundw
            case rel => exact ⟨i + 1, by omega, by simp, by rw [HS.out], trivial⟩
            case measure =>
              simp [intOf]
              omega
      · obtain rfl : i = 64 := by omega
        go_wp2_with fail
        go_ret
        exact ⟨rfl, rfl⟩
end Go.Proofs.YtgoedlgilgnphaaDoor
