/- Contracts of the reference's plus and less: sums and differences of digits. -/
/- The contract of the reference's less: a difference of digits. -/
/- The contract of the reference's size: how numbers without signs stand. -/
import Derived.Test.YtlnfabjgcecebaaGreatJ2
namespace Go.Proofs.YtlnfabjgcecebaaGreat.Big
open Go.RowKit

theorem Row.at {w : World} {oa : Option Addr} {n cap : Nat} {ds : List Int} (h : Row w (.slice oa n cap) ds) {i : Nat} (hi : i < ds.length) :
    ∃ b off, oa = some ⟨b, off, none⟩ ∧ b < w.heap.size ∧ w.cell? ⟨b, off + i, none⟩ = some (.int .u32 (ds.getD i 0)) := by
  obtain ⟨ob, c, h1, h2, h3, h4, h5⟩ := h
  simp only [Value.slice.injEq] at h1
  obtain ⟨rfl, _, rfl⟩ := h1
  exact h5 i hi
theorem land16_u32 (r : Int) (h0 : 0 ≤ r) (h1 : r < 4294967296) : bits .and .u32 r 65535 = r % 65536 := by go_bits2

set_option maxHeartbeats 2000000 in
theorem rplus_any (s t : Value) (ds es : List Int) (w : World) (hra0 : Row w s ds) (hrb0 : Row w t es) (hda : Dig ds) (hdb : Dig es) (la : ds.length ≤ 1000) (lb : es.length ≤ 1000) :
    Calls Tryz.prog 97 #[s, t] w fun e w' => ∃ v, e = .returned v ∧ ∃ os, Row w' v os ∧ Dig os ∧ val os = val ds + val es ∧ os.length ≤ 1 + ds.length + es.length ∧ Below w.heap.size w w' := by
  obtain ⟨i0, hi, hz0, hz1, hz2⟩ := info_parts infoU32
  have hr1 := hra0
  have hr2 := hrb0
  obtain ⟨oa, ca, rfl, -, -, -, -⟩ := hr1
  obtain ⟨ob, cb, rfl, -, -, -, -⟩ := hr2
  go_enter Tryz.func97, Tryz.ntmps97
  go_wp2_with fail
  go_loopw [5, 6, 7] (fun d u i wr => ∃ (out : List Int) (k : Nat) (c : Int), 0 ≤ c ∧ c ≤ 1 ∧ out.length = k ∧ wr.ownsRow w.heap.size 102 1 d out.length (out.map (Value.int .u32)) ∧ Dig out ∧ Hid (val out + pw k * (c + val (ds.drop k) + val (es.drop k)) = val ds + val es) ∧ (k ≤ ds.length ∨ k ≤ es.length ∨ k ≤ 1 + ds.length + es.length ∧ c = 0) ∧ i = .int .i64 k ∧ u = .int .u32 c ∧ Below w.heap.size w wr ∧ w.heap.size ≤ wr.heap.size) (fun _ _ i _ => 2002 - (intOf i).toNat)
  case atStart => exact ⟨[], 0, 0, by omega, by omega, rfl, World.ownsRow_nil _ _ _ _, dig_nil, (by unfold Hid; show 0 + 1 * (0 + val ds + val es) = val ds + val es; omega), by omega, rfl, rfl, Below.refl _ _, Nat.le_refl _⟩
  case round =>
    obtain ⟨out, _, c, c0, c1, rfl, hown, hdig, hval, hkm, rfl, rfl, hbel, hB⟩ := hrel
    have hra := hra0.below hbel
    have hrb := hrb0.below hbel
    by_cases ka : out.length < ds.length
    · by_cases kb : out.length < es.length
      · obtain ⟨ab, ao, rfl, alt, ac⟩ := hra.at ka
        obtain ⟨x, hx⟩ : ∃ x, Hid (ds.getD out.length 0 = x) := ⟨_, rfl⟩
        have bx := dig_get hda out.length
        rw [hx.out] at ac bx
        obtain ⟨bb, bo, rfl, blt, bc⟩ := hrb.at kb
        obtain ⟨y, hy⟩ : ∃ y, Hid (es.getD out.length 0 = y) := ⟨_, rfl⟩
        have by_ := dig_get hdb out.length
        rw [hy.out] at bc by_
        have hl := land16_u32 (c + x + y) (by omega) (by omega)
        have hstep : Hid (val (out ++ [(c + x + y) % 65536]) + pw (out.length + 1) * ((c + x + y) / 65536 + val (ds.drop (out.length + 1)) + val (es.drop (out.length + 1))) = val ds + val es) := by
          have h := hval.out
          rw [val_drop ds out.length, val_drop es out.length, hx.out, hy.out] at h
          have h2 := sum_step rfl h
          exact h2
        clear hval hra hrb
        go_wp2_with (at_builtin; refine wpList_append_own _ rfl _ _ 90 rfl w.heap.size 102 i0 (.int .u32 0) 1 4 Tryz.underlying90 hi hz0 hz1 hz2 rfl (by decide) _ _ _ rfl (hown.alloc _) ⟨wr.heap.size, 0, none⟩ 1 1 [.int .u32 ((c + x + y) % 65536)] rfl rfl ?c1 ?c2 ?c3 ?c4 ?c5 ?_)
        case c1 =>
          intro j u hj
          match j, hj with
          | 0, hj => simp at hj; subst hj; simp [Addr.add]
        case c2 => intro u hu; simp at hu; subst hu; rfl
        case c3 => unfold maxLen; omega
        case c4 => omega
        case c5 => simp; omega
        · intro v' w1 hown' hgrow _
          have R := own_step hbel hB hown hown' hgrow
          clear hown' hgrow hown
          go_wp2
          go_roundw
          case rel => exact ⟨out ++ [(c + x + y) % 65536], out.length + 1, (c + x + y) / 65536, by omega, by omega, by simp, R.1, dig_snoc hdig (by omega) (by omega), hstep, by omega, by go_num, rfl, R.2.1, R.2.2⟩
          case measure => simp [intOf]; omega
      · obtain ⟨ab, ao, rfl, alt, ac⟩ := hra.at ka
        obtain ⟨x, hx⟩ : ∃ x, Hid (ds.getD out.length 0 = x) := ⟨_, rfl⟩
        have bx := dig_get hda out.length
        rw [hx.out] at ac bx
        have hy : Hid (es.getD out.length 0 = 0) := get_past (by omega)
        have kb' : decide ((out.length : Int) < (es.length : Int)) = false := by simp; omega
        have hl := land16_u32 (c + x) (by omega) (by omega)
        have hstep : Hid (val (out ++ [(c + x) % 65536]) + pw (out.length + 1) * ((c + x) / 65536 + val (ds.drop (out.length + 1)) + val (es.drop (out.length + 1))) = val ds + val es) := by
          have h := hval.out
          rw [val_drop ds out.length, val_drop es out.length, hx.out, hy.out] at h
          have h2 := sum_step rfl h
          unfold Hid; simpa using h2
        clear hval hra hrb
        go_wp2_with (at_builtin; refine wpList_append_own _ rfl _ _ 90 rfl w.heap.size 102 i0 (.int .u32 0) 1 4 Tryz.underlying90 hi hz0 hz1 hz2 rfl (by decide) _ _ _ rfl (hown.alloc _) ⟨wr.heap.size, 0, none⟩ 1 1 [.int .u32 ((c + x) % 65536)] rfl rfl ?c1 ?c2 ?c3 ?c4 ?c5 ?_)
        case c1 =>
          intro j u hj
          match j, hj with
          | 0, hj => simp at hj; subst hj; simp [Addr.add]
        case c2 => intro u hu; simp at hu; subst hu; rfl
        case c3 => unfold maxLen; omega
        case c4 => omega
        case c5 => simp; omega
        · intro v' w1 hown' hgrow _
          have R := own_step hbel hB hown hown' hgrow
          clear hown' hgrow hown
          go_wp2
          go_roundw
          case rel => exact ⟨out ++ [(c + x) % 65536], out.length + 1, (c + x) / 65536, by omega, by omega, by simp, R.1, dig_snoc hdig (by omega) (by omega), hstep, by omega, by go_num, rfl, R.2.1, R.2.2⟩
          case measure => simp [intOf]; omega
    · by_cases kb : out.length < es.length
      · have hx : Hid (ds.getD out.length 0 = 0) := get_past (by omega)
        have ka' : decide ((out.length : Int) < (ds.length : Int)) = false := by simp; omega
        obtain ⟨bb, bo, rfl, blt, bc⟩ := hrb.at kb
        obtain ⟨y, hy⟩ : ∃ y, Hid (es.getD out.length 0 = y) := ⟨_, rfl⟩
        have by_ := dig_get hdb out.length
        rw [hy.out] at bc by_
        have hl := land16_u32 (c + y) (by omega) (by omega)
        have hstep : Hid (val (out ++ [(c + y) % 65536]) + pw (out.length + 1) * ((c + y) / 65536 + val (ds.drop (out.length + 1)) + val (es.drop (out.length + 1))) = val ds + val es) := by
          have h := hval.out
          rw [val_drop ds out.length, val_drop es out.length, hx.out, hy.out] at h
          have h2 := sum_step rfl h
          unfold Hid; simpa using h2
        clear hval hra hrb
        go_wp2_with (at_builtin; refine wpList_append_own _ rfl _ _ 90 rfl w.heap.size 102 i0 (.int .u32 0) 1 4 Tryz.underlying90 hi hz0 hz1 hz2 rfl (by decide) _ _ _ rfl (hown.alloc _) ⟨wr.heap.size, 0, none⟩ 1 1 [.int .u32 ((c + y) % 65536)] rfl rfl ?c1 ?c2 ?c3 ?c4 ?c5 ?_)
        case c1 =>
          intro j u hj
          match j, hj with
          | 0, hj => simp at hj; subst hj; simp [Addr.add]
        case c2 => intro u hu; simp at hu; subst hu; rfl
        case c3 => unfold maxLen; omega
        case c4 => omega
        case c5 => simp; omega
        · intro v' w1 hown' hgrow _
          have R := own_step hbel hB hown hown' hgrow
          clear hown' hgrow hown
          go_wp2
          go_roundw
          case rel => exact ⟨out ++ [(c + y) % 65536], out.length + 1, (c + y) / 65536, by omega, by omega, by simp, R.1, dig_snoc hdig (by omega) (by omega), hstep, by omega, by go_num, rfl, R.2.1, R.2.2⟩
          case measure => simp [intOf]; omega
      · by_cases hc : 0 < c
        · have hx : Hid (ds.getD out.length 0 = 0) := get_past (by omega)
          have ka' : decide ((out.length : Int) < (ds.length : Int)) = false := by simp; omega
          have hy : Hid (es.getD out.length 0 = 0) := get_past (by omega)
          have kb' : decide ((out.length : Int) < (es.length : Int)) = false := by simp; omega
          have hl := land16_u32 (c) (by omega) (by omega)
          have hstep : Hid (val (out ++ [(c) % 65536]) + pw (out.length + 1) * ((c) / 65536 + val (ds.drop (out.length + 1)) + val (es.drop (out.length + 1))) = val ds + val es) := by
            have h := hval.out
            rw [val_drop ds out.length, val_drop es out.length, hx.out, hy.out] at h
            have h2 := sum_step rfl h
            unfold Hid; simpa using h2
          clear hval hra hrb
          go_wp2_with (at_builtin; refine wpList_append_own _ rfl _ _ 90 rfl w.heap.size 102 i0 (.int .u32 0) 1 4 Tryz.underlying90 hi hz0 hz1 hz2 rfl (by decide) _ _ _ rfl (hown.alloc _) ⟨wr.heap.size, 0, none⟩ 1 1 [.int .u32 ((c) % 65536)] rfl rfl ?c1 ?c2 ?c3 ?c4 ?c5 ?_)
          case c1 =>
            intro j u hj
            match j, hj with
            | 0, hj => simp at hj; subst hj; simp [Addr.add]
          case c2 => intro u hu; simp at hu; subst hu; rfl
          case c3 => unfold maxLen; omega
          case c4 => omega
          case c5 => simp; omega
          · intro v' w1 hown' hgrow _
            have R := own_step hbel hB hown hown' hgrow
            clear hown' hgrow hown
            go_wp2
            go_roundw
            case rel => exact ⟨out ++ [(c) % 65536], out.length + 1, (c) / 65536, by omega, by omega, by simp, R.1, dig_snoc hdig (by omega) (by omega), hstep, by omega, by go_num, rfl, R.2.1, R.2.2⟩
            case measure => simp [intOf]; omega
        · have hcz : c = 0 := by omega
          subst hcz
          have hval2 : Hid (val out = val ds + val es) := by
            have h := hval.out
            rw [val_drop_past (by omega), val_drop_past (by omega)] at h
            unfold Hid; simpa using h
          have ka' : decide ((out.length : Int) < (ds.length : Int)) = false := by simp; omega
          have kb' : decide ((out.length : Int) < (es.length : Int)) = false := by simp; omega
          clear hval
          go_wp2
          go_ret
          exact ⟨_, rfl, out, row_of_own hown, hdig, hval2.out, by omega, hbel⟩
end Go.Proofs.YtlnfabjgcecebaaGreat.Big
namespace Go.Proofs.YtlnfabjgcecebaaGreat.Big
open Go.RowKit

theorem land16_i32 (r : Int) : bits .and .i32 r 65535 = r % 65536 := by
  show IntKind.i32.wrap ((BitVec.ofInt 32 r &&& BitVec.ofInt 32 65535).toNat : Int) = r % 65536
  have e2 : (BitVec.ofInt 32 65535).toNat = 65535 := rfl
  have e3 : ∀ n : Nat, n &&& 65535 = n % 65536 := fun n => Nat.and_two_pow_sub_one_eq_mod n 16
  rw [BitVec.toNat_and, e2, e3, BitVec.toNat_ofInt, IntKind.wrap_i32]
  omega

theorem less_end {out : List Int} {n : Nat} {c V : Int} (hd : Dig out) (hl : out.length = n) (hc : -1 ≤ c) (hc1 : c ≤ 0) (h : val out + pw n * c = V) (hV : 0 ≤ V) : val out = V := by
  have h1 := val_lt hd
  rw [hl] at h1
  by_cases hz : c = 0
  · subst hz; omega
  · have : c = -1 := by omega
    subst this
    omega

set_option maxHeartbeats 2000000 in
theorem rless_any (s t : Value) (ds es : List Int) (w : World) (hra0 : Row w s ds) (hrb0 : Row w t es) (hda : Dig ds) (hdb : Dig es) (la : ds.length ≤ 1000) (lb : es.length ≤ ds.length) (hge : val es ≤ val ds) :
    Calls Tryz.prog 99 #[s, t] w fun e w' => ∃ v, e = .returned v ∧ ∃ os, Row w' v os ∧ Dig os ∧ val os = val ds - val es ∧ os.length ≤ ds.length ∧ Below w.heap.size w w' := by
  obtain ⟨i0, hi, hz0, hz1, hz2⟩ := info_parts infoU32
  have hr1 := hra0
  have hr2 := hrb0
  obtain ⟨oa, ca, rfl, -, -, -, -⟩ := hr1
  obtain ⟨ob, cb, rfl, -, -, -, -⟩ := hr2
  go_enter Tryz.func99, Tryz.ntmps99
  go_wp2_with fail
  go_loopw [5, 6, 10] (fun d u i wr => ∃ (out : List Int) (c : Int), -1 ≤ c ∧ c ≤ 0 ∧ out.length ≤ ds.length ∧ wr.ownsRow w.heap.size 102 1 d out.length (out.map (Value.int .u32)) ∧ Dig out ∧ Hid (val out + pw out.length * (c + val (ds.drop out.length) - val (es.drop out.length)) = val ds - val es) ∧ i = .int .i64 out.length ∧ u = .int .i32 c ∧ Below w.heap.size w wr ∧ w.heap.size ≤ wr.heap.size) (fun _ _ i _ => 1000 - (intOf i).toNat)
  case atStart => exact ⟨[], 0, by omega, by omega, by simp, World.ownsRow_nil _ _ _ _, dig_nil, (by unfold Hid; show 0 + 1 * (0 + val ds - val es) = val ds - val es; omega), rfl, rfl, Below.refl _ _, Nat.le_refl _⟩
  case round =>
    obtain ⟨out, c, c0, c1, hkm, hown, hdig, hval, rfl, rfl, hbel, hB⟩ := hrel
    have hra := hra0.below hbel
    have hrb := hrb0.below hbel
    by_cases ka : out.length < ds.length
    · by_cases kb : out.length < es.length
      · obtain ⟨ab, ao, rfl, alt, ac⟩ := hra.at ka
        obtain ⟨x, hx⟩ : ∃ x, Hid (ds.getD out.length 0 = x) := ⟨_, rfl⟩
        have bx := dig_get hda out.length
        rw [hx.out] at ac bx
        obtain ⟨bb, bo, rfl, blt, bc⟩ := hrb.at kb
        obtain ⟨y, hy⟩ : ∃ y, Hid (es.getD out.length 0 = y) := ⟨_, rfl⟩
        have by_ := dig_get hdb out.length
        rw [hy.out] at bc by_
        have hl := land16_i32 (c + x - y)
        have hstep : Hid (val (out ++ [(c + x - y) % 65536]) + pw (out.length + 1) * ((c + x - y) / 65536 + val (ds.drop (out.length + 1)) - val (es.drop (out.length + 1))) = val ds - val es) := by
          have h := hval.out
          rw [val_drop ds out.length, val_drop es out.length, hx.out, hy.out] at h
          have h2 := diff_step rfl h
          exact h2
        clear hval hra hrb
        go_wp2_with (at_builtin; refine wpList_append_own _ rfl _ _ 90 rfl w.heap.size 102 i0 (.int .u32 0) 1 4 Tryz.underlying90 hi hz0 hz1 hz2 rfl (by decide) _ _ _ rfl (hown.alloc _) ⟨wr.heap.size, 0, none⟩ 1 1 [.int .u32 ((c + x - y) % 65536)] rfl rfl ?c1 ?c2 ?c3 ?c4 ?c5 ?_)
        case c1 =>
          intro j u hj
          match j, hj with
          | 0, hj => simp at hj; subst hj; simp [Addr.add]
        case c2 => intro u hu; simp at hu; subst hu; rfl
        case c3 => unfold maxLen; omega
        case c4 => omega
        case c5 => simp; omega
        · intro v' w1 hown' hgrow _
          have R := own_step hbel hB hown hown' hgrow
          clear hown' hgrow hown
          go_wp2
          go_roundw
          case rel => exact ⟨out ++ [(c + x - y) % 65536], (c + x - y) / 65536, by omega, by omega, by simp; omega, R.1, dig_snoc hdig (by omega) (by omega), by simpa using hstep, by simp, rfl, R.2.1, R.2.2⟩
          case measure => simp [intOf]; omega
      · obtain ⟨ab, ao, rfl, alt, ac⟩ := hra.at ka
        obtain ⟨x, hx⟩ : ∃ x, Hid (ds.getD out.length 0 = x) := ⟨_, rfl⟩
        have bx := dig_get hda out.length
        rw [hx.out] at ac bx
        have hy : Hid (es.getD out.length 0 = 0) := get_past (by omega)
        have kb' : decide ((out.length : Int) < (es.length : Int)) = false := by simp; omega
        have hl := land16_i32 (c + x)
        have hstep : Hid (val (out ++ [(c + x) % 65536]) + pw (out.length + 1) * ((c + x) / 65536 + val (ds.drop (out.length + 1)) - val (es.drop (out.length + 1))) = val ds - val es) := by
          have h := hval.out
          rw [val_drop ds out.length, val_drop es out.length, hx.out, hy.out] at h
          have h2 := diff_step rfl h
          unfold Hid; simpa using h2
        clear hval hra hrb
        go_wp2_with (at_builtin; refine wpList_append_own _ rfl _ _ 90 rfl w.heap.size 102 i0 (.int .u32 0) 1 4 Tryz.underlying90 hi hz0 hz1 hz2 rfl (by decide) _ _ _ rfl (hown.alloc _) ⟨wr.heap.size, 0, none⟩ 1 1 [.int .u32 ((c + x) % 65536)] rfl rfl ?c1 ?c2 ?c3 ?c4 ?c5 ?_)
        case c1 =>
          intro j u hj
          match j, hj with
          | 0, hj => simp at hj; subst hj; simp [Addr.add]
        case c2 => intro u hu; simp at hu; subst hu; rfl
        case c3 => unfold maxLen; omega
        case c4 => omega
        case c5 => simp; omega
        · intro v' w1 hown' hgrow _
          have R := own_step hbel hB hown hown' hgrow
          clear hown' hgrow hown
          go_wp2
          go_roundw
          case rel => exact ⟨out ++ [(c + x) % 65536], (c + x) / 65536, by omega, by omega, by simp; omega, R.1, dig_snoc hdig (by omega) (by omega), by simpa using hstep, by simp, rfl, R.2.1, R.2.2⟩
          case measure => simp [intOf]; omega
    · have hval2 : Hid (val out = val ds - val es) := by
        have h := hval.out
        rw [val_drop_past (by omega), val_drop_past (by omega)] at h
        exact less_end hdig rfl c0 c1 (by simpa using h) (by omega)
      have ka' : decide ((out.length : Int) < (ds.length : Int)) = false := by simp; omega
      clear hval
      go_wp2
      go_ret
      exact ⟨_, rfl, out, row_of_own hown, hdig, hval2.out, hkm, hbel⟩
end Go.Proofs.YtlnfabjgcecebaaGreat.Big
namespace Go.Proofs.YtlnfabjgcecebaaGreat.Big
open Go.RowKit

theorem cmp_of_lt {V U : Int} (h : V < U) : cmpI V U = -1 := by unfold cmpI; rw [if_neg (by omega), if_pos h]
theorem cmp_of_gt {V U : Int} (h : U < V) : cmpI V U = 1 := by unfold cmpI; rw [if_neg (by omega), if_neg (by omega)]
theorem cmp_self (V : Int) : cmpI V V = 0 := by unfold cmpI; rw [if_pos rfl]
theorem shorter_lt {ds es : List Int} (hd : Dig ds) (he : Dig es) (ce : Canon es) (h : ds.length < es.length) : val ds < val es := by
  have h1 := val_lt hd
  have h2 := canon_len he ce (by omega)
  have h3 := pw_le (show ds.length ≤ es.length - 1 by omega)
  omega
theorem top_lt {ds es : List Int} {m : Nat} (hd : Dig ds) (he : Dig es) (h1 : m < ds.length) (h2 : m < es.length) (ht : ds.drop (m + 1) = es.drop (m + 1)) (h : ds.getD m 0 < es.getD m 0) : val ds < val es := by
  rw [val_split ds (m + 1) (by omega), val_split es (m + 1) (by omega), ht, List.take_succ_eq_append_getElem h1, List.take_succ_eq_append_getElem h2, val_snoc, val_snoc, ← get_in h1, ← get_in h2]
  have a1 := val_lt (dig_take m hd)
  have a2 := val_nonneg (dig_take m he)
  rw [List.length_take, List.length_take, Nat.min_eq_left (by omega), Nat.min_eq_left (by omega)] at *
  have hp := pw_pos m
  generalize ds.getD m 0 = x at *
  generalize es.getD m 0 = y at *
  have h3 : pw m * (x + 1) ≤ pw m * y := Int.mul_le_mul_of_nonneg_left (by omega) (by omega)
  rw [Int.mul_add] at h3
  omega
theorem drop_step {ds es : List Int} {m : Nat} (h1 : m < ds.length) (h2 : m < es.length) (ht : ds.drop (m + 1) = es.drop (m + 1)) (h : ds.getD m 0 = es.getD m 0) : ds.drop m = es.drop m := by
  rw [List.drop_eq_getElem_cons h1, List.drop_eq_getElem_cons h2, ht, ← get_in h1, ← get_in h2, h]

set_option maxHeartbeats 2000000 in
theorem rsize_any (s t : Value) (ds es : List Int) (w : World) (hra0 : Row w s ds) (hrb0 : Row w t es) (hda : Dig ds) (hdb : Dig es) (ca : Canon ds) (cb : Canon es) :
    Calls Tryz.prog 98 #[s, t] w fun e w' => e = .returned (.int .i64 (cmpI (val ds) (val es))) ∧ Below w.heap.size w w' := by
  have hr1 := hra0
  have hr2 := hrb0
  obtain ⟨oa, caa, rfl, la, lm, -, -⟩ := hr1
  obtain ⟨ob, cbb, rfl, lb, lm2, -, -⟩ := hr2
  unfold maxLen at lm lm2
  by_cases hl : ds.length = es.length
  · have hl' : ((ds.length : Int) != (es.length : Int)) = false := by simp; omega
    have HL : Hid (ds.length = es.length) := hl
    go_enter Tryz.func98, Tryz.ntmps98
    clear hl
    go_wp2_with fail
    go_loopw [5] (fun i wr => ∃ k : Nat, k ≤ ds.length ∧ i = .int .i64 ((k : Int) - 1) ∧ Hid (ds.drop k = es.drop k) ∧ Below w.heap.size w wr) (fun i _ => (intOf i + 1).toNat)
    case atStart => exact ⟨ds.length, Nat.le_refl _, rfl, by unfold Hid; rw [List.drop_eq_nil_of_le (Nat.le_refl _), List.drop_eq_nil_of_le (by rw [HL.out]; exact Nat.le_refl _)], Below.refl _ _⟩
    case round =>
      obtain ⟨k, hk, rfl, ht, hbel⟩ := hrel
      have hra := hra0.below hbel
      have hrb := hrb0.below hbel
      by_cases h0 : 0 < k
      · obtain ⟨m, rfl⟩ : ∃ m, k = m + 1 := ⟨k - 1, by omega⟩
        have hm2 : m < es.length := by rw [← HL.out]; omega
        obtain ⟨ab, ao, rfl, alt, ac⟩ := hra.at (i := m) (by omega)
        obtain ⟨bb, bo, rfl, blt, bc⟩ := hrb.at hm2
        have hlt1 := @top_lt ds es m hda hdb (by omega) hm2 ht.out
        have hlt2 := @top_lt es ds m hdb hda hm2 (by omega) ht.out.symm
        have hdr := @drop_step ds es m (by omega) hm2 ht.out
        obtain ⟨x, hx⟩ : ∃ x, Hid (ds.getD m 0 = x) := ⟨_, rfl⟩
        obtain ⟨y, hy⟩ : ∃ y, Hid (es.getD m 0 = y) := ⟨_, rfl⟩
        rw [hx.out] at ac hlt1 hlt2 hdr
        rw [hy.out] at bc hlt1 hlt2 hdr
        have em : ((m + 1 : Nat) : Int) - 1 = (m : Int) := by omega
        rw [em]
        clear em hra hrb
        by_cases hxy : x = y
        · have hxy' : (x != y) = false := by simpa using hxy
          have HD : Hid (ds.drop m = es.drop m) := hdr hxy
          clear hlt1 hlt2 hdr hxy
          go_wp2
          go_region
          all_goals
            go_wp2
            go_roundw
            case rel => exact ⟨m, by omega, rfl, HD, hbel.drew⟩
            case measure => simp [intOf]
        · have hxy' : (x != y) = true := by simpa using hxy
          by_cases hlt : x < y
          · have HC : Hid (cmpI (val ds) (val es) = -1) := cmp_of_lt (hlt1 hlt)
            clear hlt1 hlt2 hdr hxy
            go_wp2
            go_region
            all_goals
              go_wp2
              go_region
              all_goals
                go_wp2
                go_ret
                exact ⟨ret_int HC.out.symm, hbel.drew.drew⟩
          · have HC : Hid (cmpI (val ds) (val es) = 1) := cmp_of_gt (hlt2 (by omega))
            have hlt' : decide (x < y) = false := by simpa using hlt
            clear hlt1 hlt2 hdr hxy hlt
            go_wp2
            go_region
            all_goals
              go_wp2
              go_region
              all_goals
                go_wp2
                go_ret
                exact ⟨ret_int HC.out.symm, hbel.drew.drew⟩
      · have hk0 : k = 0 := by omega
        subst hk0
        have HC : Hid (cmpI (val ds) (val es) = 0) := by
          have h := ht.out
          rw [List.drop_zero, List.drop_zero] at h
          unfold Hid; rw [h]; exact cmp_self _
        clear ht hra hrb
        go_wp2
        go_ret
        exact ⟨ret_int HC.out.symm, hbel⟩
  · have hl' : ((ds.length : Int) != (es.length : Int)) = true := by simp; omega
    by_cases hlt : ds.length < es.length
    · rw [cmp_of_lt (shorter_lt hda hdb cb hlt)]
      have hlt' : (ds.length : Int) < (es.length : Int) := by omega
      clear hl
      go_enter Tryz.func98, Tryz.ntmps98
      go_wp2
      go_ret
      exact ⟨rfl, Below.refl _ _⟩
    · rw [cmp_of_gt (shorter_lt hdb hda ca (by omega))]
      have hlt' : decide (ds.length < es.length) = false := by simp; omega
      clear hl hlt
      go_enter Tryz.func98, Tryz.ntmps98
      go_wp2
      go_ret
      exact ⟨rfl, Below.refl _ _⟩
end Go.Proofs.YtlnfabjgcecebaaGreat.Big
