/- Plain facts for the reference's Times: digits that are made, and written one by one. -/
/- The contract of the reference's Times. -/
/- Contracts of the reference's Add, Sub, Mul, Cross, Near, Clamp and Gcd. -/
/- Contracts of the reference's Gcd and Near. -/
/- The contract of the reference's Near. -/
import Derived.Test.YtlnfabjgcecebaaJ4
import Derived.Deep.OwnRows
import Derived.Deep.CutRange
namespace Go.Proofs.Ytlnfabjgcecebaa.Big
open Go.RowKit

theorem get_set {ds : List Int} {p m : Nat} {v : Int} (hp : p < ds.length) : (ds.set p v).getD m 0 = if m = p then v else ds.getD m 0 := by
  by_cases h : m = p
  · subst h; simp [hp]
  · rw [if_neg h]
    simp only [List.getD_eq_getElem?_getD, List.getElem?_set_ne (Ne.symm h)]
theorem val_set : ∀ (ds : List Int) (p : Nat) (v : Int), p < ds.length → val (ds.set p v) = val ds + pw p * (v - ds.getD p 0)
  | x :: r, 0, v, _ => by
    show v + 65536 * val r = x + 65536 * val r + 1 * (v - x)
    omega
  | x :: r, p + 1, v, h => by
    have ih := val_set r p v (by simp at h; omega)
    show x + 65536 * val (r.set p v) = x + 65536 * val r + pw (p + 1) * (v - r.getD p 0)
    rw [ih, pw_succ, Int.mul_add, Int.mul_comm (pw p) 65536, Int.mul_assoc]
    omega
theorem dig_set {ds : List Int} {p : Nat} {v : Int} (h : Dig ds) (h0 : 0 ≤ v) (h1 : v < 65536) : Dig (ds.set p v) := by
  intro d hd
  rcases List.mem_or_eq_of_mem_set hd with hd | hd
  · exact h d hd
  · subst hd; exact ⟨h0, h1⟩
theorem val_zeros (n : Nat) : val (List.replicate n 0) = 0 := by
  induction n with
  | zero => rfl
  | succ n ih => show 0 + 65536 * val (List.replicate n 0) = 0; rw [ih]; rfl
theorem dig_zeros (n : Nat) : Dig (List.replicate n 0) := by
  intro d hd
  rw [List.eq_of_mem_replicate hd]; omega

/-- One step of the inner loop. -/
theorem mul_step {O c o x y E T P : Int} (h : O + P * (c + x * (y + 65536 * E)) = T) : O + P * ((c + (o + x * y)) % 65536 - o) + P * 65536 * ((c + (o + x * y)) / 65536 + x * E) = T := by
  rw [← h]
  have e : c + x * (y + 65536 * E) = (c + (o + x * y)) % 65536 - o + 65536 * ((c + (o + x * y)) / 65536 + x * E) := by
    rw [Int.mul_add, ← Int.mul_assoc, Int.mul_comm x 65536, Int.mul_assoc]
    generalize x * y = p
    generalize x * E = q
    omega
  rw [e]
  generalize (c + (o + x * y)) % 65536 - o = d
  generalize (c + (o + x * y)) / 65536 + x * E = q
  rw [Int.mul_add, Int.mul_assoc]
  omega
theorem inner_next {o2 es : List Int} {k p : Nat} {c x o y T : Int} (hl : k + p < o2.length) (ho : o2.getD (k + p) 0 = o) (hy : es.getD p 0 = y) (h : val o2 + pw (k + p) * (c + x * val (es.drop p)) = T) :
    val (o2.set (k + p) ((c + (o + x * y)) % 65536)) + pw (k + (p + 1)) * ((c + (o + x * y)) / 65536 + x * val (es.drop (p + 1))) = T := by
  rw [val_set _ _ _ hl, ho, show k + (p + 1) = k + p + 1 from rfl, pw_succ]
  rw [val_drop es p, hy] at h
  exact mul_step h
/-- Where there is a carry there is a place for it. -/
theorem carry_place {out : List Int} {c S T : Int} {q n : Nat} (hd : Dig out) (hc : 0 < c) (hS : 0 ≤ S) (h : val out + pw q * (c + S) = T) (hT : T < pw n) : q < n := by
  have h0 := val_nonneg hd
  have hp := pw_pos q
  have h1 : pw q * 1 ≤ pw q * (c + S) := Int.mul_le_mul_of_nonneg_left (by omega) (by omega)
  have h2 : ¬ n ≤ q := fun hc => by have := pw_le hc; omega
  omega
theorem row_total {ds es : List Int} {i : Nat} (hd : Dig ds) (he : Dig es) (hi : i < ds.length) : val (ds.take (i + 1)) * val es < pw (ds.length + es.length) := by
  have h1 := val_lt (dig_take (i + 1) hd)
  have h2 := val_lt he
  have h3 := val_nonneg he
  have h4 := val_nonneg (dig_take (i + 1) hd)
  rw [List.length_take, Nat.min_eq_left (by omega)] at h1
  have h5 := pw_le (show i + 1 ≤ ds.length by omega)
  rw [pw_add]
  have h6 : val (ds.take (i + 1)) * val es ≤ val (ds.take (i + 1)) * pw es.length := Int.mul_le_mul_of_nonneg_left (by omega) h4
  have h7 : val (ds.take (i + 1)) * pw es.length < pw ds.length * pw es.length := Int.mul_lt_mul_of_pos_right (by omega) (pw_pos _)
  omega
theorem row_next {ds : List Int} {i : Nat} {E : Int} (hi : i < ds.length) : val (ds.take i) * E + pw i * (ds.getD i 0 * E) = val (ds.take (i + 1)) * E := by
  rw [List.take_succ_eq_append_getElem hi, val_snoc, ← get_in hi, List.length_take, Nat.min_eq_left (by omega), Int.add_mul, Int.mul_assoc]

/-- The digits that Times writes: n cells of the block g, and nothing else has turned. -/
def TW (W2 wr : World) (g n : Nat) (out : List Int) : Prop :=
  Below W2.heap.size W2 wr ∧ g < wr.heap.size ∧ out.length = n ∧ Dig out ∧ (∀ m, m < n → wr.cell? ⟨g, m, none⟩ = some (.int .u32 (out.getD m 0))) ∧ (∀ m, m < n → wr.frozen? ⟨g, m, none⟩ = false)

theorem TW.set {W2 wr : World} {g n p : Nat} {out : List Int} {v : Int} (h : TW W2 wr g n out) (hg : W2.heap.size ≤ g) (hp : p < n) (h0 : 0 ≤ v) (h1 : v < 65536) : TW W2 (wr.setCell ⟨g, p, none⟩ (.int .u32 v)) g n (out.set p v) := by
  obtain ⟨a, b, c, d, e, f⟩ := h
  refine ⟨a.setCell hg _, by simpa [World.setCell] using b, by rw [List.length_set]; exact c, dig_set d h0 h1, fun m hm => ?_, fun m hm => ?_⟩
  · rw [get_set (by omega)]
    by_cases hmp : m = p
    · subst hmp
      rw [if_pos rfl]
      exact World.cell?_setCell_same _ _ _ (e m hm)
    · rw [if_neg hmp, World.cell?_setCell_other _ _ _ _ (fun h => hmp (congrArg Addr.off h).symm)]
      exact e m hm
  · rw [← f m hm]; simp
theorem TW.row {W2 wr : World} {g n : Nat} {out : List Int} (h : TW W2 wr g n out) (hn : n ≤ 3000) : Row wr (.slice (some ⟨g, 0, none⟩) n n) out := by
  obtain ⟨a, b, c, d, e, f⟩ := h
  exact ⟨some ⟨g, 0, none⟩, n, by rw [c], by omega, by unfold maxLen; omega, fun h => (by cases h), fun i hi => ⟨g, 0, rfl, b, by rw [Nat.zero_add]; exact e i (by omega)⟩⟩
theorem TW.new (W2 : World) (n : Nat) : TW W2 (W2.alloc (.cells (madeCells #[.int .u32 0] n) 109)) W2.heap.size n (List.replicate n 0) := by
  refine ⟨below_alloc _ _, by simp, by simp, dig_zeros n, fun m hm => ?_, fun m hm => by simp [go_sem]⟩
  rw [World.cell?_alloc_at _ _ _ _ rfl, ← Array.getElem?_toList, toList_madeCells_one, List.getElem?_replicate, if_pos hm]
  simp [hm]
end Go.Proofs.Ytlnfabjgcecebaa.Big
namespace Go.Proofs.Ytlnfabjgcecebaa.Big
open Go.RowKit

set_option maxHeartbeats 2000000 in
theorem times_core (na nb : Bool) (s t : Value) (ds es : List Int) (w : World) (hra0 : Row w s ds) (hrb0 : Row w t es) (hda : Dig ds) (hdb : Dig es) (la : ds.length ≤ 1000) (lb : es.length ≤ 1000) :
    Calls Try.prog 82 #[.agg #[.bool na, s], .agg #[.bool nb, t]] w fun e w' => ∃ v, e = .returned v ∧ Wd w' v (turnI (!(na == nb)) (val ds * val es)) ∧ Below w.heap.size w w' := by
  obtain ⟨oa, ca, rfl, -, -, -, -⟩ := id hra0
  obtain ⟨ob, cb, rfl, -, -, -, -⟩ := id hrb0
  have hmk : ∀ W : World, (Instr.makeSlice 91 (.int .i64 ((ds.length : Int) + (es.length : Int) + 1)) (.int .i64 ((ds.length : Int) + (es.length : Int) + 1))).run Try.prog W = .ok (.slice (some ⟨W.heap.size, 0, none⟩) (ds.length + es.length + 1) (ds.length + es.length + 1)) (W.alloc (.cells (madeCells #[.int .u32 0] (ds.length + es.length + 1)) 109)) := by
    intro W
    have h := run_make_row' 91 109 (.int .u32 0) 4 Try.underlying91 infoU32 rfl .i64 .i64 (ds.length + es.length + 1) (by omega) (by omega) W
    simpa using h
  have hS := ps_start (na := na) (nb := nb) hra0 hrb0
  have hR : RC (((w.alloc (.cells #[.bool na, .slice oa ds.length ca] 93)).alloc (.cells #[.bool nb, .slice ob es.length cb] 93)).alloc (.cells #[.bool false, .slice none 0 0] 93)) (w.heap.size + 1 + 1) := ⟨by simp [go_sem], by simp [go_sem], by simp [go_sem], by simp [go_sem]⟩
  have hT := TW.new (((w.alloc (.cells #[.bool na, .slice oa ds.length ca] 93)).alloc (.cells #[.bool nb, .slice ob es.length cb] 93)).alloc (.cells #[.bool false, .slice none 0 0] 93)) (ds.length + es.length + 1)
  have hsz : (((w.alloc (.cells #[.bool na, .slice oa ds.length ca] 93)).alloc (.cells #[.bool nb, .slice ob es.length cb] 93)).alloc (.cells #[.bool false, .slice none 0 0] 93)).heap.size = w.heap.size + 1 + 1 + 1 := by simp
  go_enter Try.func82, Try.ntmps82
  go_wp2_with fail
  rw [hsz] at hT
  generalize (((w.alloc (.cells #[.bool na, .slice oa ds.length ca] 93)).alloc (.cells #[.bool nb, .slice ob es.length cb] 93)).alloc (.cells #[.bool false, .slice none 0 0] 93)) = W2 at *
  have HSZ : Hid (W2.heap.size = w.heap.size + 1 + 1 + 1) := hsz
  clear hsz hmk
  go_loopw [23] (fun i wr => ∃ (k : Nat) (out : List Int), k ≤ ds.length ∧ i = .int .i64 k ∧ TW W2 wr (w.heap.size + 1 + 1 + 1) (ds.length + es.length + 1) out ∧ Hid (val out = val (ds.take k) * val es)) (fun i _ => ds.length - (intOf i).toNat)
  case atStart => exact ⟨0, _, Nat.zero_le _, rfl, hT, by unfold Hid; rw [val_zeros]; show (0 : Int) = 0 * val es; omega⟩
  case round =>
    obtain ⟨k, out, hk, rfl, htw, hval⟩ := hrel
    have hkb : wr.cell? ⟨w.heap.size + 1, 1, none⟩ = some (.slice ob es.length cb) := keep htw.1 (by rw [HSZ.out]; omega) hS.2.2.2.1
    by_cases hka : k < ds.length
    · obtain ⟨ab, ao, rfl, alt, ac⟩ := ((ps_ra hS).below htw.1).at hka
      have hxb := dig_get hda k
      have hT1 := row_total hda hdb hka
      have hnx := row_next (E := val es) hka
      obtain ⟨x, hx⟩ : ∃ x, Hid (ds.getD k 0 = x) := ⟨_, rfl⟩
      rw [hx.out] at ac hxb hnx
      rw [← hnx] at hT1
      have HNX : Hid (val (ds.take k) * val es + pw k * (x * val es) = val (ds.take (k + 1)) * val es) := hnx
      have HT1 : Hid (val (ds.take k) * val es + pw k * (x * val es) < pw (ds.length + es.length)) := hT1
      clear hnx hT1
      go_wp2_with fail
      go_loopw [8, 9] (fun u j wj => ∃ (p : Nat) (c : Int) (o2 : List Int), 0 ≤ c ∧ c < 65536 ∧ k + p ≤ ds.length + es.length + 1 ∧ u = .int .u32 c ∧ j = .int .i64 p ∧ TW W2 wj (w.heap.size + 1 + 1 + 1) (ds.length + es.length + 1) o2 ∧ Hid (val o2 + pw (k + p) * (c + x * val (es.drop p)) = val (ds.take k) * val es + pw k * (x * val es))) (fun _ j _ => ds.length + es.length + 1 - (k + (intOf j).toNat))
      case atStart => exact ⟨0, 0, out, by omega, by omega, by omega, rfl, rfl, htw, by unfold Hid; rw [hval.out]; simp⟩
      case round =>
        obtain ⟨p, c, o2, c0, c1, hkp, rfl, rfl, htw2, hinv⟩ := hrel
        have hkb2 : wr.cell? ⟨w.heap.size + 1, 1, none⟩ = some (.slice ob es.length cb) := keep htw2.1 (by rw [HSZ.out]; omega) hS.2.2.2.1
        by_cases hpb : p < es.length
        · obtain ⟨bb, bo, rfl, blt, bc⟩ := ((ps_rb hS).below htw2.1).at hpb
          have hyb := dig_get hdb p
          obtain ⟨y, hy⟩ : ∃ y, Hid (es.getD p 0 = y) := ⟨_, rfl⟩
          rw [hy.out] at bc hyb
          have hoc := htw2.2.2.2.2.1 (k + p) (by omega)
          have hof := htw2.2.2.2.2.2 (k + p) (by omega)
          have hob := dig_get htw2.2.2.2.1 (k + p)
          obtain ⟨o, ho⟩ : ∃ o, Hid (o2.getD (k + p) 0 = o) := ⟨_, rfl⟩
          rw [ho.out] at hoc hob
          have hm0 : 0 ≤ x * y := Int.mul_nonneg hxb.1 hyb.1
          have hm1 : x * y ≤ 65535 * 65535 := Int.mul_le_mul (by omega) (by omega) hyb.1 (by omega)
          have hl := land16_u32 (c + (o + x * y)) (by omega) (by omega)
          have hlen : k + p < o2.length := by rw [htw2.2.2.1]; omega
          have hnext : Hid (val (o2.set (k + p) ((c + (o + x * y)) % 65536)) + pw (k + (p + 1)) * ((c + (o + x * y)) / 65536 + x * val (es.drop (p + 1))) = val (ds.take k) * val es + pw k * (x * val es)) := inner_next hlen ho.out hy.out hinv.out
          go_wp2
          exact ⟨⟨p + 1, (c + (o + x * y)) / 65536, o2.set (k + p) ((c + (o + x * y)) % 65536), by omega, by omega, by omega, rfl, by go_num, htw2.set (by rw [HSZ.out]; exact Nat.le_refl _) (by omega) (by omega) (by omega), hnext⟩, by simp [intOf]; omega⟩
        · have hpb' : decide ((p : Int) < (es.length : Int)) = false := by simp; omega
          by_cases hc : 0 < c
          · have hpl : k + p < ds.length + es.length := by
              have h := hinv.out
              rw [val_drop_past (by omega)] at h
              exact carry_place htw2.2.2.2.1 hc (by omega : (0 : Int) ≤ x * 0) h HT1.out
            have hoc := htw2.2.2.2.2.1 (k + p) (by omega)
            have hof := htw2.2.2.2.2.2 (k + p) (by omega)
            have hob := dig_get htw2.2.2.2.1 (k + p)
            obtain ⟨o, ho⟩ : ∃ o, Hid (o2.getD (k + p) 0 = o) := ⟨_, rfl⟩
            rw [ho.out] at hoc hob
            have hl := land16_u32 (c + o) (by omega) (by omega)
            have hlen : k + p < o2.length := by rw [htw2.2.2.1]; omega
            have hnext : Hid (val (o2.set (k + p) ((c + o) % 65536)) + pw (k + (p + 1)) * ((c + o) / 65536 + x * val (es.drop (p + 1))) = val (ds.take k) * val es + pw k * (x * val es)) := by
              have h := inner_next (y := 0) hlen ho.out (get_past (by omega)) hinv.out
              rw [Int.mul_zero, Int.add_zero] at h
              exact h
            go_wp2
            exact ⟨⟨p + 1, (c + o) / 65536, o2.set (k + p) ((c + o) % 65536), by omega, by omega, by omega, rfl, by go_num, htw2.set (by rw [HSZ.out]; exact Nat.le_refl _) (by omega) (by omega) (by omega), hnext⟩, by simp [intOf]; omega⟩
          · have hcz : c = 0 := by omega
            subst hcz
            have hend : Hid (val o2 = val (ds.take (k + 1)) * val es) := by
              have h := hinv.out
              rw [val_drop_past (by omega), HNX.out] at h
              unfold Hid; rw [← h]; simp
            go_wp2
            exact ⟨⟨k + 1, o2, by omega, by go_num, htw2, hend⟩, by simp [intOf]; omega⟩
    · have hkl : k = ds.length := by omega
      subst hkl
      have hka' : decide ((ds.length : Int) < (ds.length : Int)) = false := by simp
      have HV : Hid (val out = val ds * val es) := by have h := hval.out; rw [List.take_length] at h; exact h
      have hSr := ps_step hS htw.1
      have hRr := RC.step hR (ps_l hS) htw.1
      have hrow := htw.row (by omega)
      have hdig := htw.2.2.2.1
      obtain ⟨s1, s2, s3, s4, s5, _, _, kk⟩ := hSr
      clear hS hR hT htw hval hkb hka
      go_wp2_with fail
      refine (trim_any (!(na == nb)) _ out _ hrow hdig).mono ?_
      rw [HV.out]
      rintro e w1 ⟨v, rfl, hwd, hb⟩
      have rc := RC.step hRr s5 hb
      obtain ⟨t2, ds2, rfl, hr2, hd2, hc2, hv2⟩ := id hwd
      obtain ⟨o2, c2, rfl, -, -, -, -⟩ := id hr2
      obtain ⟨q0, q1, q2, q3⟩ := id rc
      obtain ⟨nn, hnn⟩ : ∃ nn, Hid (decide (turnI (!(na == nb)) (val ds * val es) < 0) = nn) := ⟨_, rfl⟩
      rw [hnn.out] at hwd ⊢
      have hfin := hwd.set2 (u := .bool nn) (v := .slice o2 ds2.length c2) rc
      have kf := below2 kk (by omega) hb
      clear hwd rc hRr hv2
      go_wp2_with fail
      exact bodyPost_ret (v := .agg #[.bool nn, .slice o2 ds2.length c2]) (by simp [results, Try.results82, go_sem, q0, q1]) rfl ⟨_, rfl, hfin, (kf.setCell (by simp; omega) _).setCell (by simp; omega) _⟩

theorem wtimes_any (x y : Value) (V U : Int) (w : World) (hx : Wd w x V) (hy : Wd w y U) (bV : absI V < pw 1000) (bU : absI U < pw 1000) :
    Calls Try.prog 82 #[x, y] w fun e w' => ∃ v, e = .returned v ∧ Wd w' v (V * U) ∧ Below w.heap.size w w' := by
  obtain ⟨s, ds, rfl, ra, da, ca, va⟩ := hx
  obtain ⟨t, es, rfl, rb, db, cb, vb⟩ := hy
  have h := times_core (decide (V < 0)) (decide (U < 0)) s t ds es w ra rb da db (wd_len ra da ca va bV) (wd_len rb db cb vb bU)
  rw [va, vb, show turnI (!(decide (V < 0) == decide (U < 0))) (absI V * absI U) = V * U from turn_abs V U] at h
  exact h
end Go.Proofs.Ytlnfabjgcecebaa.Big
namespace Go.Proofs.Ytlnfabjgcecebaa.Big
open Go.RowKit

theorem big_int {a : Int} (ha0 : -9223372036854775808 ≤ a) (ha1 : a ≤ 9223372036854775807) : absI a < pw 1000 := by
  have h1 := abs_bd ha0 ha1
  have h2 := pw_le (show 4 ≤ 1000 by omega)
  rw [pw4] at h2
  omega
theorem pw9 : pw 9 = 22300745198530623141535718272648361505980416 := rfl
theorem big_of {V : Int} (h0 : -22300745198530623141535718272648361505980416 < V) (h1 : V < 22300745198530623141535718272648361505980416) : absI V < pw 1000 := by
  have h2 := pw_le (show 9 ≤ 1000 by omega)
  rw [pw9] at h2
  unfold absI; split <;> omega

set_option maxHeartbeats 400000 in
theorem radd_any (a b : Int) (w : World) (ha0 : -9223372036854775808 ≤ a) (ha1 : a ≤ 9223372036854775807) (hb0 : -9223372036854775808 ≤ b) (hb1 : b ≤ 9223372036854775807) :
    Calls Try.prog 106 #[.int .i64 a, .int .i64 b] w fun e w' => e = .returned (.tuple #[.int .i64 (toldI (a + b)), .bool (fitsB (a + b))]) ∧ Below w.heap.size w w' := by
  go_enter Try.func106, Try.ntmps106
  go_wp2_with fail
  refine (of_any a _ ha0 ha1).mono ?_
  rintro e w1 ⟨x1, rfl, hx1, b1⟩
  go_wp2_with fail
  refine (of_any b _ hb0 hb1).mono ?_
  rintro e w2 ⟨x2, rfl, hx2, b2⟩
  have k2 := below2 b1 b1.size b2
  go_wp2_with fail
  refine (wplus_any x1 x2 a b _ (hx1.below b2) hx2 (big_int ha0 ha1) (big_int hb0 hb1)).mono ?_
  rintro e w3 ⟨x3, rfl, hx3, b3⟩
  have k3 := below2 k2 k2.size b3
  go_wp2_with fail
  refine (told_any x3 (a + b) _ hx3).mono ?_
  rintro e w4 ⟨rfl, b4⟩
  have k4 := below2 k3 k3.size b4
  go_wp2_with fail
  go_ret2
  exact ⟨rfl, k4⟩

set_option maxHeartbeats 400000 in
theorem rsub_any (a b : Int) (w : World) (ha0 : -9223372036854775808 ≤ a) (ha1 : a ≤ 9223372036854775807) (hb0 : -9223372036854775808 ≤ b) (hb1 : b ≤ 9223372036854775807) :
    Calls Try.prog 71 #[.int .i64 a, .int .i64 b] w fun e w' => e = .returned (.tuple #[.int .i64 (toldI (a - b)), .bool (fitsB (a - b))]) ∧ Below w.heap.size w w' := by
  go_enter Try.func71, Try.ntmps71
  go_wp2_with fail
  refine (of_any a _ ha0 ha1).mono ?_
  rintro e w1 ⟨x1, rfl, hx1, b1⟩
  go_wp2_with fail
  refine (of_any b _ hb0 hb1).mono ?_
  rintro e w2 ⟨x2, rfl, hx2, b2⟩
  have k2 := below2 b1 b1.size b2
  go_wp2_with fail
  refine (wminus_any x2 b _ hx2).mono ?_
  rintro e w3 ⟨x3, rfl, hx3, b3⟩
  have k3 := below2 k2 k2.size b3
  go_wp2_with fail
  refine (wplus_any x1 x3 a (-b) _ ((hx1.below b2).below b3) hx3 (big_int ha0 ha1) (by rw [pw_abs_neg]; exact big_int hb0 hb1)).mono ?_
  rw [show a + -b = a - b by omega]
  rintro e w4 ⟨x4, rfl, hx4, b4⟩
  have k4 := below2 k3 k3.size b4
  go_wp2_with fail
  refine (told_any x4 (a - b) _ hx4).mono ?_
  rintro e w5 ⟨rfl, b5⟩
  have k5 := below2 k4 k4.size b5
  go_wp2_with fail
  go_ret2
  exact ⟨rfl, k5⟩

theorem rclamp_any (x l m : Int) (w : World) :
    Calls Try.prog 107 #[.int .i64 x, .int .i64 l, .int .i64 m] w fun e w' => e = .returned (.int .i64 (clampI x l m)) ∧ w' = w := by
  by_cases h1 : m < x
  · by_cases h2 : m < l
    · rw [show clampI x l m = l by unfold clampI; rw [if_neg (by omega), if_neg (by omega)]]
      go_enter Try.func107, Try.ntmps107
      go_wp2
      go_ret
      exact ⟨rfl, rfl⟩
    · rw [show clampI x l m = m by unfold clampI; rw [if_neg (by omega)]; split <;> omega]
      have h2' : decide (m < l) = false := by simpa using h2
      go_enter Try.func107, Try.ntmps107
      go_wp2
      go_ret
      exact ⟨rfl, rfl⟩
  · have h1' : decide (m < x) = false := by simpa using h1
    by_cases h2 : x < l
    · rw [show clampI x l m = l by unfold clampI; split <;> split <;> omega]
      clear h1
      go_enter Try.func107, Try.ntmps107
      go_wp2
      go_ret
      exact ⟨rfl, rfl⟩
    · rw [show clampI x l m = x by unfold clampI; split <;> split <;> omega]
      have h2' : decide (x < l) = false := by simpa using h2
      clear h1 h2
      go_enter Try.func107, Try.ntmps107
      go_wp2
      go_ret
      exact ⟨rfl, rfl⟩
end Go.Proofs.Ytlnfabjgcecebaa.Big
namespace Go.Proofs.Ytlnfabjgcecebaa.Big
open Go.RowKit

/-- From numbers not below 0 on: the loop of the reference's Gcd. -/
theorem gcd_zero_right' {p : Int} (h : 0 ≤ p) : ((Int.gcd p 0 : Nat) : Int) = p := by simp; omega

end Go.Proofs.Ytlnfabjgcecebaa.Big
namespace Go.Proofs.Ytlnfabjgcecebaa.Big
open Go.RowKit

theorem ns_step {w W w1 : World} {A B n8 c8 m11 c11 : Nat} {o8 o11 : Option Addr} {n11 : Bool} {ds8 : List Int} {E : Int} (h : W.cell? ⟨A, 1, none⟩ = some (.slice o8 n8 c8) ∧ W.cell? ⟨B, 0, none⟩ = some (.bool n11) ∧ W.cell? ⟨B, 1, none⟩ = some (.slice o11 m11 c11) ∧ A < W.heap.size ∧ B < W.heap.size ∧ Row W (.slice o8 n8 c8) ds8 ∧ Wd W (.agg #[.bool n11, .slice o11 m11 c11]) E ∧ Below w.heap.size w W ∧ w.heap.size ≤ W.heap.size) (hb : Below W.heap.size W w1) : w1.cell? ⟨A, 1, none⟩ = some (.slice o8 n8 c8) ∧ w1.cell? ⟨B, 0, none⟩ = some (.bool n11) ∧ w1.cell? ⟨B, 1, none⟩ = some (.slice o11 m11 c11) ∧ A < w1.heap.size ∧ B < w1.heap.size ∧ Row w1 (.slice o8 n8 c8) ds8 ∧ Wd w1 (.agg #[.bool n11, .slice o11 m11 c11]) E ∧ Below w.heap.size w w1 ∧ w.heap.size ≤ w1.heap.size := by
  obtain ⟨h1, h2, h3, l1, l2, r, wd, k, m⟩ := h
  have hs := hb.size
  exact ⟨keep hb l1 h1, keep hb l2 h2, keep hb l2 h3, by omega, by omega, r.below hb, wd.below hb, below2 k m hb, by omega⟩
theorem ns_drew {w W : World} {A B n8 c8 m11 c11 : Nat} {o8 o11 : Option Addr} {n11 : Bool} {ds8 : List Int} {E : Int} (h : W.cell? ⟨A, 1, none⟩ = some (.slice o8 n8 c8) ∧ W.cell? ⟨B, 0, none⟩ = some (.bool n11) ∧ W.cell? ⟨B, 1, none⟩ = some (.slice o11 m11 c11) ∧ A < W.heap.size ∧ B < W.heap.size ∧ Row W (.slice o8 n8 c8) ds8 ∧ Wd W (.agg #[.bool n11, .slice o11 m11 c11]) E ∧ Below w.heap.size w W ∧ w.heap.size ≤ W.heap.size) : W.drew.cell? ⟨A, 1, none⟩ = some (.slice o8 n8 c8) ∧ W.drew.cell? ⟨B, 0, none⟩ = some (.bool n11) ∧ W.drew.cell? ⟨B, 1, none⟩ = some (.slice o11 m11 c11) ∧ A < W.drew.heap.size ∧ B < W.drew.heap.size ∧ Row W.drew (.slice o8 n8 c8) ds8 ∧ Wd W.drew (.agg #[.bool n11, .slice o11 m11 c11]) E ∧ Below w.heap.size w W.drew ∧ w.heap.size ≤ W.drew.heap.size := by
  obtain ⟨h1, h2, h3, l1, l2, r, wd, k, m⟩ := h
  exact ⟨h1, h2, h3, l1, l2, r.drew, wd.below ((Below.refl _ _).drew), k.drew, m⟩
theorem ns_row {w W : World} {A B n8 c8 m11 c11 : Nat} {o8 o11 : Option Addr} {n11 : Bool} {ds8 : List Int} {E : Int} (h : W.cell? ⟨A, 1, none⟩ = some (.slice o8 n8 c8) ∧ W.cell? ⟨B, 0, none⟩ = some (.bool n11) ∧ W.cell? ⟨B, 1, none⟩ = some (.slice o11 m11 c11) ∧ A < W.heap.size ∧ B < W.heap.size ∧ Row W (.slice o8 n8 c8) ds8 ∧ Wd W (.agg #[.bool n11, .slice o11 m11 c11]) E ∧ Below w.heap.size w W ∧ w.heap.size ≤ W.heap.size) : Row W (.slice o8 n8 c8) ds8 := h.2.2.2.2.2.1
theorem ns_wd {w W : World} {A B n8 c8 m11 c11 : Nat} {o8 o11 : Option Addr} {n11 : Bool} {ds8 : List Int} {E : Int} (h : W.cell? ⟨A, 1, none⟩ = some (.slice o8 n8 c8) ∧ W.cell? ⟨B, 0, none⟩ = some (.bool n11) ∧ W.cell? ⟨B, 1, none⟩ = some (.slice o11 m11 c11) ∧ A < W.heap.size ∧ B < W.heap.size ∧ Row W (.slice o8 n8 c8) ds8 ∧ Wd W (.agg #[.bool n11, .slice o11 m11 c11]) E ∧ Below w.heap.size w W ∧ w.heap.size ≤ W.heap.size) : Wd W (.agg #[.bool n11, .slice o11 m11 c11]) E := h.2.2.2.2.2.2.1

set_option maxHeartbeats 2000000 in
theorem rnear_any (a b c d e f : Int) (w : World) (ha0 : -9223372036854775808 ≤ a) (ha1 : a ≤ 9223372036854775807) (hb0 : -9223372036854775808 ≤ b) (hb1 : b ≤ 9223372036854775807) (hc0 : -9223372036854775808 ≤ c) (hc1 : c ≤ 9223372036854775807) (hd0 : -9223372036854775808 ≤ d) (hd1 : d ≤ 9223372036854775807) (he0 : -9223372036854775808 ≤ e) (he1 : e ≤ 9223372036854775807) (hf0 : -9223372036854775808 ≤ f) (hf1 : f ≤ 9223372036854775807) :
    Calls Try.prog 54 #[.int .i64 a, .int .i64 b, .int .i64 c, .int .i64 d, .int .i64 e, .int .i64 f] w fun r w' => r = .returned (.bool (decide (absI (a * d - c * b) ≤ e * f))) ∧ Below w.heap.size w w' := by
  obtain ⟨p0, p1⟩ := prod_bd ha0 ha1 hd0 hd1
  obtain ⟨q0, q1⟩ := prod_bd hc0 hc1 hb0 hb1
  go_enter Try.func54, Try.ntmps54
  go_wp2_with fail
  refine (of_any a _ ha0 ha1).mono ?_
  rintro r w1 ⟨x1, rfl, hx1, b1⟩
  go_wp2_with fail
  refine (of_any d _ hd0 hd1).mono ?_
  rintro r w2 ⟨x2, rfl, hx2, b2⟩
  have k2 := below2 b1 b1.size b2
  go_wp2_with fail
  refine (wtimes_any x1 x2 a d _ (hx1.below b2) hx2 (big_int ha0 ha1) (big_int hd0 hd1)).mono ?_
  rintro r w3 ⟨x3, rfl, hx3, b3⟩
  have k3 := below2 k2 k2.size b3
  clear hx1 hx2 b1 b2 b3 k2
  go_wp2_with fail
  refine (of_any c _ hc0 hc1).mono ?_
  rintro r w4 ⟨x4, rfl, hx4, b4⟩
  have k4 := below2 k3 k3.size b4
  go_wp2_with fail
  refine (of_any b _ hb0 hb1).mono ?_
  rintro r w5 ⟨x5, rfl, hx5, b5⟩
  have k5 := below2 k4 k4.size b5
  go_wp2_with fail
  refine (wtimes_any x4 x5 c b _ (hx4.below b5) hx5 (big_int hc0 hc1) (big_int hb0 hb1)).mono ?_
  rintro r w6 ⟨x6, rfl, hx6, b6⟩
  have k6 := below2 k5 k5.size b6
  have hx3 := ((hx3.below b4).below b5).below b6
  clear hx4 hx5 b4 b5 b6 k3 k4 k5
  go_wp2_with fail
  refine (wminus_any x6 (c * b) _ hx6).mono ?_
  rintro r w7 ⟨x7, rfl, hx7, b7⟩
  have k7 := below2 k6 k6.size b7
  have hx3 := hx3.below b7
  clear hx6 b7 k6
  go_wp2_with fail
  refine (wplus_any x3 x7 (a * d) (-(c * b)) _ hx3 hx7 (big_of (by omega) (by omega)) (big_of (by omega) (by omega))).mono ?_
  rw [show a * d + -(c * b) = a * d - c * b by omega]
  rintro r w8 ⟨x8, rfl, hx8, b8⟩
  have k8 := below2 k7 k7.size b8
  clear hx3 hx7 b8 k7
  have m8 := k8.size
  obtain ⟨s8, ds8, rfl, r8, d8, cn8, v8⟩ := hx8
  obtain ⟨o8, c8, rfl, -, -, -, -⟩ := id r8
  have V8 := Hid.mk v8
  clear v8
  obtain ⟨n8, hn8⟩ : ∃ n8, Hid (decide (a * d - c * b < 0) = n8) := ⟨_, rfl⟩
  rw [hn8.out]
  go_wp2_with fail
  refine (of_any e _ he0 he1).mono ?_
  rintro r w9 ⟨x9, rfl, hx9, b9⟩
  have hz9 := keepS b9
  have hk9 : w9.cell? ⟨w8.heap.size, 1, none⟩ = some (.slice o8 ds8.length c8) := keepN b9 rfl
  have r9 := (r8.alloc _).below b9
  have k9 := belowA k8 m8 b9
  have m9 := k9.size
  clear b9 r8 k8
  go_wp2_with fail
  refine (of_any f _ hf0 hf1).mono ?_
  rintro r w10 ⟨x10, rfl, hx10, b10⟩
  have hk10 := keep b10 hz9 hk9
  have hz10 : w8.heap.size < w10.heap.size := Nat.lt_of_lt_of_le hz9 b10.size
  have r10 := r9.below b10
  have k10 := below2 k9 m9 b10
  have m10 := k10.size
  go_wp2_with fail
  refine (wtimes_any x9 x10 e f _ (hx9.below b10) hx10 (big_int he0 he1) (big_int hf0 hf1)).mono ?_
  rintro r w11 ⟨x11, rfl, hx11, b11⟩
  have hk11 := keep b11 hz10 hk10
  have hz11 : w8.heap.size < w11.heap.size := Nat.lt_of_lt_of_le hz10 b11.size
  have r11 := r10.below b11
  have k11 := below2 k10 m10 b11
  have m11 := k11.size
  clear b10 b11 hx9 hx10 hk9 hk10 r9 r10 k9 k10
  obtain ⟨s11, ds11, rfl, rr11, d11, cn11, v11⟩ := id hx11
  obtain ⟨o11, c11, rfl, -, -, -, -⟩ := id rr11
  obtain ⟨n11, hn11⟩ : ∃ n11, Hid (decide (e * f < 0) = n11) := ⟨_, rfl⟩
  rw [hn11.out] at hx11 ⊢
  have HT : Hid (turnI false (val ds8) = absI (a * d - c * b)) := by unfold Hid; rw [V8.out]; rfl
  have hS : (w11.alloc (.cells #[.bool n11, .slice o11 ds11.length c11] 93)).cell? ⟨w8.heap.size, 1, none⟩ = some (.slice o8 ds8.length c8) ∧ (w11.alloc (.cells #[.bool n11, .slice o11 ds11.length c11] 93)).cell? ⟨w11.heap.size, 0, none⟩ = some (.bool n11) ∧ (w11.alloc (.cells #[.bool n11, .slice o11 ds11.length c11] 93)).cell? ⟨w11.heap.size, 1, none⟩ = some (.slice o11 ds11.length c11) ∧ w8.heap.size < (w11.alloc (.cells #[.bool n11, .slice o11 ds11.length c11] 93)).heap.size ∧ w11.heap.size < (w11.alloc (.cells #[.bool n11, .slice o11 ds11.length c11] 93)).heap.size ∧ Row (w11.alloc (.cells #[.bool n11, .slice o11 ds11.length c11] 93)) (.slice o8 ds8.length c8) ds8 ∧ Wd (w11.alloc (.cells #[.bool n11, .slice o11 ds11.length c11] 93)) (.agg #[.bool n11, .slice o11 ds11.length c11]) (e * f) ∧ Below w.heap.size w (w11.alloc (.cells #[.bool n11, .slice o11 ds11.length c11] 93)) ∧ w.heap.size ≤ (w11.alloc (.cells #[.bool n11, .slice o11 ds11.length c11] 93)).heap.size :=
    ⟨by rw [World.cell?_alloc_past _ _ _ hz11]; exact hk11, by simp [go_sem], by simp [go_sem], by simp; omega, by simp, r11.alloc _, hx11.below (below_alloc _ _), k11.alloc m11 _, by simp; omega⟩
  clear hk11 r11 k11 hx11 rr11 v11
  go_wp2_with fail
  go_region_held3 (fun w' => w'.cell? ⟨w8.heap.size, 1, none⟩ = some (.slice o8 ds8.length c8) ∧ w'.cell? ⟨w11.heap.size, 0, none⟩ = some (.bool n11) ∧ w'.cell? ⟨w11.heap.size, 1, none⟩ = some (.slice o11 ds11.length c11) ∧ w8.heap.size < w'.heap.size ∧ w11.heap.size < w'.heap.size ∧ Row w' (.slice o8 ds8.length c8) ds8 ∧ Wd w' (.agg #[.bool n11, .slice o11 ds11.length c11]) (e * f) ∧ Below w.heap.size w w' ∧ w.heap.size ≤ w'.heap.size) (first | assumption | exact ns_drew (by assumption)) (first | (go_at_call 86; refine (trim_any false _ ds8 _ (ns_row (by assumption)) d8).mono ?_; rw [HT.out]; rintro r w12 ⟨x12, rfl, hx12, b12⟩; have key := ns_step (by assumption) b12; clear b12) | (go_at_call 85; refine (wcmp_any x12 _ (absI (a * d - c * b)) (e * f) _ hx12 (ns_wd key)).mono ?_; rintro r w13 ⟨rfl, b13⟩; have key2 := ns_step key b13; clear b13))
  all_goals
    go_wp2_with fail
    go_ret
    exact ⟨ret_bool (cmp_le _ _), key2.2.2.2.2.2.2.2.1⟩
end Go.Proofs.Ytlnfabjgcecebaa.Big
