/- The contract of the reference's Times. -/
import Derived.Test.YtkeoccjobcdldaaBigCmp
import Derived.Deep.OwnRows
namespace Go.Proofs.Ytkeoccjobcdldaa.Big
open Go.RowKit

theorem get_set {ds : List Int} {p m : Nat} {v : Int} (hp : p < ds.length) : (ds.set p v).getD m 0 = if m = p then v else ds.getD m 0 := by
  by_cases h : m = p
  · subst h; simp [hp]
  · rw [if_neg h]
    simp only [List.getD_eq_getElem?_getD, List.getElem?_set_ne (Ne.symm h)]
theorem val_set : ∀ (ds : List Int) (p : Nat) (v : Int), p < ds.length → val (ds.set p v) = val ds + pw p * (v - ds.getD p 0)
  | x :: r, 0, v, _ => by
    show v + 65536 * val r = x + 65536 * val r + 1 * (v - x)
    omega
  | x :: r, p + 1, v, h => by
    have ih := val_set r p v (by simp at h; omega)
    show x + 65536 * val (r.set p v) = x + 65536 * val r + pw (p + 1) * (v - r.getD p 0)
    rw [ih, pw_succ, Int.mul_add, Int.mul_comm (pw p) 65536, Int.mul_assoc]
    omega
theorem dig_set {ds : List Int} {p : Nat} {v : Int} (h : Dig ds) (h0 : 0 ≤ v) (h1 : v < 65536) : Dig (ds.set p v) := by
  intro d hd
  rcases List.mem_or_eq_of_mem_set hd with hd | hd
  · exact h d hd
  · subst hd; exact ⟨h0, h1⟩
theorem val_zeros (n : Nat) : val (List.replicate n 0) = 0 := by
  induction n with
  | zero => rfl
  | succ n ih => show 0 + 65536 * val (List.replicate n 0) = 0; rw [ih]; rfl
theorem dig_zeros (n : Nat) : Dig (List.replicate n 0) := by
  intro d hd
  rw [List.eq_of_mem_replicate hd]; omega

/-- One step of the inner loop. -/
theorem mul_step {O c o x y E T P : Int} (h : O + P * (c + x * (y + 65536 * E)) = T) : O + P * ((c + (o + x * y)) % 65536 - o) + P * 65536 * ((c + (o + x * y)) / 65536 + x * E) = T := by
  rw [← h]
  have e : c + x * (y + 65536 * E) = (c + (o + x * y)) % 65536 - o + 65536 * ((c + (o + x * y)) / 65536 + x * E) := by
    rw [Int.mul_add, ← Int.mul_assoc, Int.mul_comm x 65536, Int.mul_assoc]
    generalize x * y = p
    generalize x * E = q
    omega
  rw [e]
  generalize (c + (o + x * y)) % 65536 - o = d
  generalize (c + (o + x * y)) / 65536 + x * E = q
  rw [Int.mul_add, Int.mul_assoc]
  omega
theorem inner_next {o2 es : List Int} {k p : Nat} {c x o y T : Int} (hl : k + p < o2.length) (ho : o2.getD (k + p) 0 = o) (hy : es.getD p 0 = y) (h : val o2 + pw (k + p) * (c + x * val (es.drop p)) = T) :
    val (o2.set (k + p) ((c + (o + x * y)) % 65536)) + pw (k + (p + 1)) * ((c + (o + x * y)) / 65536 + x * val (es.drop (p + 1))) = T := by
  rw [val_set _ _ _ hl, ho, show k + (p + 1) = k + p + 1 from rfl, pw_succ]
  rw [val_drop es p, hy] at h
  exact mul_step h
/-- Where there is a carry there is a place for it. -/
theorem carry_place {out : List Int} {c S T : Int} {q n : Nat} (hd : Dig out) (hc : 0 < c) (hS : 0 ≤ S) (h : val out + pw q * (c + S) = T) (hT : T < pw n) : q < n := by
  have h0 := val_nonneg hd
  have hp := pw_pos q
  have h1 : pw q * 1 ≤ pw q * (c + S) := Int.mul_le_mul_of_nonneg_left (by omega) (by omega)
  have h2 : ¬ n ≤ q := fun hc => by have := pw_le hc; omega
  omega
theorem row_total {ds es : List Int} {i : Nat} (hd : Dig ds) (he : Dig es) (hi : i < ds.length) : val (ds.take (i + 1)) * val es < pw (ds.length + es.length) := by
  have h1 := val_lt (dig_take (i + 1) hd)
  have h2 := val_lt he
  have h3 := val_nonneg he
  have h4 := val_nonneg (dig_take (i + 1) hd)
  rw [List.length_take, Nat.min_eq_left (by omega)] at h1
  have h5 := pw_le (show i + 1 ≤ ds.length by omega)
  rw [pw_add]
  have h6 : val (ds.take (i + 1)) * val es ≤ val (ds.take (i + 1)) * pw es.length := Int.mul_le_mul_of_nonneg_left (by omega) h4
  have h7 : val (ds.take (i + 1)) * pw es.length < pw ds.length * pw es.length := Int.mul_lt_mul_of_pos_right (by omega) (pw_pos _)
  omega
theorem row_next {ds : List Int} {i : Nat} {E : Int} (hi : i < ds.length) : val (ds.take i) * E + pw i * (ds.getD i 0 * E) = val (ds.take (i + 1)) * E := by
  rw [List.take_succ_eq_append_getElem hi, val_snoc, ← get_in hi, List.length_take, Nat.min_eq_left (by omega), Int.add_mul, Int.mul_assoc]

/-- The digits that Times writes: n cells of the block g, and nothing else has turned. -/
def TW (W2 wr : World) (g n : Nat) (out : List Int) : Prop :=
  Below W2.heap.size W2 wr ∧ g < wr.heap.size ∧ out.length = n ∧ Dig out ∧ (∀ m, m < n → wr.cell? ⟨g, m, none⟩ = some (.int .u32 (out.getD m 0))) ∧ (∀ m, m < n → wr.frozen? ⟨g, m, none⟩ = false)

theorem TW.set {W2 wr : World} {g n p : Nat} {out : List Int} {v : Int} (h : TW W2 wr g n out) (hg : W2.heap.size ≤ g) (hp : p < n) (h0 : 0 ≤ v) (h1 : v < 65536) : TW W2 (wr.setCell ⟨g, p, none⟩ (.int .u32 v)) g n (out.set p v) := by
  obtain ⟨a, b, c, d, e, f⟩ := h
  refine ⟨a.setCell hg _, by simpa [World.setCell] using b, by rw [List.length_set]; exact c, dig_set d h0 h1, fun m hm => ?_, fun m hm => ?_⟩
  · rw [get_set (by omega)]
    by_cases hmp : m = p
    · subst hmp
      rw [if_pos rfl]
      exact World.cell?_setCell_same _ _ _ (e m hm)
    · rw [if_neg hmp, World.cell?_setCell_other _ _ _ _ (fun h => hmp (congrArg Addr.off h).symm)]
      exact e m hm
  · rw [← f m hm]; simp
theorem TW.row {W2 wr : World} {g n : Nat} {out : List Int} (h : TW W2 wr g n out) (hn : n ≤ 3000) : Row wr (.slice (some ⟨g, 0, none⟩) n n) out := by
  obtain ⟨a, b, c, d, e, f⟩ := h
  exact ⟨some ⟨g, 0, none⟩, n, by rw [c], by omega, by unfold maxLen; omega, fun h => (by cases h), fun i hi => ⟨g, 0, rfl, b, by rw [Nat.zero_add]; exact e i (by omega)⟩⟩
theorem TW.new (W2 : World) (n : Nat) : TW W2 (W2.alloc (.cells (madeCells #[.int .u32 0] n) 53)) W2.heap.size n (List.replicate n 0) := by
  refine ⟨below_alloc _ _, by simp, by simp, dig_zeros n, fun m hm => ?_, fun m hm => by simp [go_sem]⟩
  rw [World.cell?_alloc_at _ _ _ _ rfl, ← Array.getElem?_toList, toList_madeCells_one, List.getElem?_replicate, if_pos hm]
  simp [hm]


set_option maxHeartbeats 2000000 in
theorem times_core (na nb : Bool) (s t : Value) (ds es : List Int) (w : World) (hra0 : Row w s ds) (hrb0 : Row w t es) (hda : Dig ds) (hdb : Dig es) (la : ds.length ≤ 1000) (lb : es.length ≤ 1000) :
    Calls Try.prog 23 #[.agg #[.bool na, s], .agg #[.bool nb, t]] w fun e w' => ∃ v, e = .returned v ∧ Wd w' v (turnI (!(na == nb)) (val ds * val es)) ∧ Below w.heap.size w w' := by
  obtain ⟨oa, ca, rfl, -, -, -, -⟩ := id hra0
  obtain ⟨ob, cb, rfl, -, -, -, -⟩ := id hrb0
  have hmk : ∀ W : World, (Instr.makeSlice 39 (.int .i64 ((ds.length : Int) + (es.length : Int) + 1)) (.int .i64 ((ds.length : Int) + (es.length : Int) + 1))).run Try.prog W = .ok (.slice (some ⟨W.heap.size, 0, none⟩) (ds.length + es.length + 1) (ds.length + es.length + 1)) (W.alloc (.cells (madeCells #[.int .u32 0] (ds.length + es.length + 1)) 53)) := by
    intro W
    have h := run_make_row' 39 53 (.int .u32 0) 4 Try.underlying39 info53 rfl .i64 .i64 (ds.length + es.length + 1) (by omega) (by omega) W
    simpa using h
  have hS := ps_start (na := na) (nb := nb) hra0 hrb0
  have hR : RC (((w.alloc (.cells #[.bool na, .slice oa ds.length ca] 41)).alloc (.cells #[.bool nb, .slice ob es.length cb] 41)).alloc (.cells #[.bool false, .slice none 0 0] 41)) (w.heap.size + 1 + 1) := ⟨by simp [go_sem], by simp [go_sem], by simp [go_sem], by simp [go_sem]⟩
  have hT := TW.new (((w.alloc (.cells #[.bool na, .slice oa ds.length ca] 41)).alloc (.cells #[.bool nb, .slice ob es.length cb] 41)).alloc (.cells #[.bool false, .slice none 0 0] 41)) (ds.length + es.length + 1)
  have hsz : (((w.alloc (.cells #[.bool na, .slice oa ds.length ca] 41)).alloc (.cells #[.bool nb, .slice ob es.length cb] 41)).alloc (.cells #[.bool false, .slice none 0 0] 41)).heap.size = w.heap.size + 1 + 1 + 1 := by simp
  go_enter Try.func23, Try.ntmps23
  go_wp2_with fail
  rw [hsz] at hT
  generalize (((w.alloc (.cells #[.bool na, .slice oa ds.length ca] 41)).alloc (.cells #[.bool nb, .slice ob es.length cb] 41)).alloc (.cells #[.bool false, .slice none 0 0] 41)) = W2 at *
  have HSZ : Hid (W2.heap.size = w.heap.size + 1 + 1 + 1) := hsz
  clear hsz hmk
  go_loopw [23] (fun i wr => ∃ (k : Nat) (out : List Int), k ≤ ds.length ∧ i = .int .i64 k ∧ TW W2 wr (w.heap.size + 1 + 1 + 1) (ds.length + es.length + 1) out ∧ Hid (val out = val (ds.take k) * val es)) (fun i _ => ds.length - (intOf i).toNat)
  case atStart => exact ⟨0, _, Nat.zero_le _, rfl, hT, by unfold Hid; rw [val_zeros]; show (0 : Int) = 0 * val es; omega⟩
  case round =>
    obtain ⟨k, out, hk, rfl, htw, hval⟩ := hrel
    have hkb : wr.cell? ⟨w.heap.size + 1, 1, none⟩ = some (.slice ob es.length cb) := keep htw.1 (by rw [HSZ.out]; omega) hS.2.2.2.1
    by_cases hka : k < ds.length
    · obtain ⟨ab, ao, rfl, alt, ac⟩ := ((ps_ra hS).below htw.1).at hka
      have hxb := dig_get hda k
      have hT1 := row_total hda hdb hka
      have hnx := row_next (E := val es) hka
      obtain ⟨x, hx⟩ : ∃ x, Hid (ds.getD k 0 = x) := ⟨_, rfl⟩
      rw [hx.out] at ac hxb hnx
      rw [← hnx] at hT1
      have HNX : Hid (val (ds.take k) * val es + pw k * (x * val es) = val (ds.take (k + 1)) * val es) := hnx
      have HT1 : Hid (val (ds.take k) * val es + pw k * (x * val es) < pw (ds.length + es.length)) := hT1
      clear hnx hT1
      go_wp2_with fail
      go_loopw [8, 9] (fun u j wj => ∃ (p : Nat) (c : Int) (o2 : List Int), 0 ≤ c ∧ c < 65536 ∧ k + p ≤ ds.length + es.length + 1 ∧ u = .int .u32 c ∧ j = .int .i64 p ∧ TW W2 wj (w.heap.size + 1 + 1 + 1) (ds.length + es.length + 1) o2 ∧ Hid (val o2 + pw (k + p) * (c + x * val (es.drop p)) = val (ds.take k) * val es + pw k * (x * val es))) (fun _ j _ => ds.length + es.length + 1 - (k + (intOf j).toNat))
      case atStart => exact ⟨0, 0, out, by omega, by omega, by omega, rfl, rfl, htw, by unfold Hid; rw [hval.out]; simp⟩
      case round =>
        obtain ⟨p, c, o2, c0, c1, hkp, rfl, rfl, htw2, hinv⟩ := hrel
        have hkb2 : wr.cell? ⟨w.heap.size + 1, 1, none⟩ = some (.slice ob es.length cb) := keep htw2.1 (by rw [HSZ.out]; omega) hS.2.2.2.1
        by_cases hpb : p < es.length
        · obtain ⟨bb, bo, rfl, blt, bc⟩ := ((ps_rb hS).below htw2.1).at hpb
          have hyb := dig_get hdb p
          obtain ⟨y, hy⟩ : ∃ y, Hid (es.getD p 0 = y) := ⟨_, rfl⟩
          rw [hy.out] at bc hyb
          have hoc := htw2.2.2.2.2.1 (k + p) (by omega)
          have hof := htw2.2.2.2.2.2 (k + p) (by omega)
          have hob := dig_get htw2.2.2.2.1 (k + p)
          obtain ⟨o, ho⟩ : ∃ o, Hid (o2.getD (k + p) 0 = o) := ⟨_, rfl⟩
          rw [ho.out] at hoc hob
          have hm0 : 0 ≤ x * y := Int.mul_nonneg hxb.1 hyb.1
          have hm1 : x * y ≤ 65535 * 65535 := Int.mul_le_mul (by omega) (by omega) hyb.1 (by omega)
          have hl := land16_u32 (c + (o + x * y)) (by omega) (by omega)
          have hlen : k + p < o2.length := by rw [htw2.2.2.1]; omega
          have hnext : Hid (val (o2.set (k + p) ((c + (o + x * y)) % 65536)) + pw (k + (p + 1)) * ((c + (o + x * y)) / 65536 + x * val (es.drop (p + 1))) = val (ds.take k) * val es + pw k * (x * val es)) := inner_next hlen ho.out hy.out hinv.out
          go_wp2
          exact ⟨⟨p + 1, (c + (o + x * y)) / 65536, o2.set (k + p) ((c + (o + x * y)) % 65536), by omega, by omega, by omega, rfl, by go_num, htw2.set (by rw [HSZ.out]; exact Nat.le_refl _) (by omega) (by omega) (by omega), hnext⟩, by simp [intOf]; omega⟩
        · have hpb' : decide ((p : Int) < (es.length : Int)) = false := by simp; omega
          by_cases hc : 0 < c
          · have hpl : k + p < ds.length + es.length := by
              have h := hinv.out
              rw [val_drop_past (by omega)] at h
              exact carry_place htw2.2.2.2.1 hc (by omega : (0 : Int) ≤ x * 0) h HT1.out
            have hoc := htw2.2.2.2.2.1 (k + p) (by omega)
            have hof := htw2.2.2.2.2.2 (k + p) (by omega)
            have hob := dig_get htw2.2.2.2.1 (k + p)
            obtain ⟨o, ho⟩ : ∃ o, Hid (o2.getD (k + p) 0 = o) := ⟨_, rfl⟩
            rw [ho.out] at hoc hob
            have hl := land16_u32 (c + o) (by omega) (by omega)
            have hlen : k + p < o2.length := by rw [htw2.2.2.1]; omega
            have hnext : Hid (val (o2.set (k + p) ((c + o) % 65536)) + pw (k + (p + 1)) * ((c + o) / 65536 + x * val (es.drop (p + 1))) = val (ds.take k) * val es + pw k * (x * val es)) := by
              have h := inner_next (y := 0) hlen ho.out (get_past (by omega)) hinv.out
              rw [Int.mul_zero, Int.add_zero] at h
              exact h
            go_wp2
            exact ⟨⟨p + 1, (c + o) / 65536, o2.set (k + p) ((c + o) % 65536), by omega, by omega, by omega, rfl, by go_num, htw2.set (by rw [HSZ.out]; exact Nat.le_refl _) (by omega) (by omega) (by omega), hnext⟩, by simp [intOf]; omega⟩
          · have hcz : c = 0 := by omega
            subst hcz
            have hend : Hid (val o2 = val (ds.take (k + 1)) * val es) := by
              have h := hinv.out
              rw [val_drop_past (by omega), HNX.out] at h
              unfold Hid; rw [← h]; simp
            go_wp2
            exact ⟨⟨k + 1, o2, by omega, by go_num, htw2, hend⟩, by simp [intOf]; omega⟩
    · have hkl : k = ds.length := by omega
      subst hkl
      have hka' : decide ((ds.length : Int) < (ds.length : Int)) = false := by simp
      have HV : Hid (val out = val ds * val es) := by have h := hval.out; rw [List.take_length] at h; exact h
      have hSr := ps_step hS htw.1
      have hRr := RC.step hR (ps_l hS) htw.1
      have hrow := htw.row (by omega)
      have hdig := htw.2.2.2.1
      obtain ⟨s1, s2, s3, s4, s5, _, _, kk⟩ := hSr
      clear hS hR hT htw hval hkb hka
      go_wp2_with fail
      refine (trim_any (!(na == nb)) _ out _ hrow hdig).mono ?_
      rw [HV.out]
      rintro e w1 ⟨v, rfl, hwd, hb⟩
      have rc := RC.step hRr s5 hb
      obtain ⟨t2, ds2, rfl, hr2, hd2, hc2, hv2⟩ := id hwd
      obtain ⟨o2, c2, rfl, -, -, -, -⟩ := id hr2
      obtain ⟨q0, q1, q2, q3⟩ := id rc
      obtain ⟨nn, hnn⟩ : ∃ nn, Hid (decide (turnI (!(na == nb)) (val ds * val es) < 0) = nn) := ⟨_, rfl⟩
      rw [hnn.out] at hwd ⊢
      have hfin := hwd.set2 (u := .bool nn) (v := .slice o2 ds2.length c2) rc
      have kf := below2 kk (by omega) hb
      clear hwd rc hRr hv2
      go_wp2_with fail
      exact bodyPost_ret (v := .agg #[.bool nn, .slice o2 ds2.length c2]) (by simp [results, Try.results23, go_sem, q0, q1]) rfl ⟨_, rfl, hfin, (kf.setCell (by simp; omega) _).setCell (by simp; omega) _⟩

theorem wtimes_any (x y : Value) (V U : Int) (w : World) (hx : Wd w x V) (hy : Wd w y U) (bV : absI V < pw 1000) (bU : absI U < pw 1000) :
    Calls Try.prog 23 #[x, y] w fun e w' => ∃ v, e = .returned v ∧ Wd w' v (V * U) ∧ Below w.heap.size w w' := by
  obtain ⟨s, ds, rfl, ra, da, ca, va⟩ := hx
  obtain ⟨t, es, rfl, rb, db, cb, vb⟩ := hy
  have h := times_core (decide (V < 0)) (decide (U < 0)) s t ds es w ra rb da db (wd_len ra da ca va bV) (wd_len rb db cb vb bU)
  rw [va, vb, show turnI (!(decide (V < 0) == decide (U < 0))) (absI V * absI U) = V * U from turn_abs V U] at h
  exact h
end Go.Proofs.Ytkeoccjobcdldaa.Big
