/- Contracts of the reference's plus and less: sums and differences of digits. -/
import Derived.Test.YtdfccjhmpgoacaaNTrim
namespace Go.Proofs.Ytdfccjhmpgoacaa.Big
open Go.RowKit

theorem Row.at {w : World} {oa : Option Addr} {n cap : Nat} {ds : List Int} (h : Row w (.slice oa n cap) ds) {i : Nat} (hi : i < ds.length) :
    ∃ b off, oa = some ⟨b, off, none⟩ ∧ b < w.heap.size ∧ w.cell? ⟨b, off + i, none⟩ = some (.int .u32 (ds.getD i 0)) := by
  obtain ⟨ob, c, h1, h2, h3, h4, h5⟩ := h
  simp only [Value.slice.injEq] at h1
  obtain ⟨rfl, _, rfl⟩ := h1
  exact h5 i hi
theorem land16_u32 (r : Int) (h0 : 0 ≤ r) (h1 : r < 4294967296) : bits .and .u32 r 65535 = r % 65536 := by go_bits2

set_option maxHeartbeats 2000000 in
theorem rplus_any (s t : Value) (ds es : List Int) (w : World) (hra0 : Row w s ds) (hrb0 : Row w t es) (hda : Dig ds) (hdb : Dig es) (la : ds.length ≤ 1000) (lb : es.length ≤ 1000) :
    Calls Try.prog 44 #[s, t] w fun e w' => ∃ v, e = .returned v ∧ ∃ os, Row w' v os ∧ Dig os ∧ val os = val ds + val es ∧ os.length ≤ 1 + ds.length + es.length ∧ Below w.heap.size w w' := by
  obtain ⟨i0, hi, hz0, hz1, hz2⟩ := info_parts infoU32
  have hr1 := hra0
  have hr2 := hrb0
  obtain ⟨oa, ca, rfl, -, -, -, -⟩ := hr1
  obtain ⟨ob, cb, rfl, -, -, -, -⟩ := hr2
  go_enter Try.func44, Try.ntmps44
  go_wp2_with fail
  go_loopw [5, 6, 7] (fun d u i wr => ∃ (out : List Int) (k : Nat) (c : Int), 0 ≤ c ∧ c ≤ 1 ∧ out.length = k ∧ wr.ownsRow w.heap.size 61 1 d out.length (out.map (Value.int .u32)) ∧ Dig out ∧ Hid (val out + pw k * (c + val (ds.drop k) + val (es.drop k)) = val ds + val es) ∧ (k ≤ ds.length ∨ k ≤ es.length ∨ k ≤ 1 + ds.length + es.length ∧ c = 0) ∧ i = .int .i64 k ∧ u = .int .u32 c ∧ Below w.heap.size w wr ∧ w.heap.size ≤ wr.heap.size) (fun _ _ i _ => 2002 - (intOf i).toNat)
  case atStart => exact ⟨[], 0, 0, by omega, by omega, rfl, World.ownsRow_nil _ _ _ _, dig_nil, (by unfold Hid; show 0 + 1 * (0 + val ds + val es) = val ds + val es; omega), by omega, rfl, rfl, Below.refl _ _, Nat.le_refl _⟩
  case round =>
    obtain ⟨out, _, c, c0, c1, rfl, hown, hdig, hval, hkm, rfl, rfl, hbel, hB⟩ := hrel
    have hra := hra0.below hbel
    have hrb := hrb0.below hbel
    by_cases ka : out.length < ds.length
    · by_cases kb : out.length < es.length
      · obtain ⟨ab, ao, rfl, alt, ac⟩ := hra.at ka
        obtain ⟨x, hx⟩ : ∃ x, Hid (ds.getD out.length 0 = x) := ⟨_, rfl⟩
        have bx := dig_get hda out.length
        rw [hx.out] at ac bx
        obtain ⟨bb, bo, rfl, blt, bc⟩ := hrb.at kb
        obtain ⟨y, hy⟩ : ∃ y, Hid (es.getD out.length 0 = y) := ⟨_, rfl⟩
        have by_ := dig_get hdb out.length
        rw [hy.out] at bc by_
        have hl := land16_u32 (c + x + y) (by omega) (by omega)
        have hstep : Hid (val (out ++ [(c + x + y) % 65536]) + pw (out.length + 1) * ((c + x + y) / 65536 + val (ds.drop (out.length + 1)) + val (es.drop (out.length + 1))) = val ds + val es) := by
          have h := hval.out
          rw [val_drop ds out.length, val_drop es out.length, hx.out, hy.out] at h
          have h2 := sum_step rfl h
          exact h2
        clear hval hra hrb
        go_wp2_with (at_builtin; refine wpList_append_own _ rfl _ _ 42 rfl w.heap.size 61 i0 (.int .u32 0) 1 4 Try.underlying42 hi hz0 hz1 hz2 rfl (by decide) _ _ _ rfl (hown.alloc _) ⟨wr.heap.size, 0, none⟩ 1 1 [.int .u32 ((c + x + y) % 65536)] rfl rfl ?c1 ?c2 ?c3 ?c4 ?c5 ?_)
        case c1 =>
          intro j u hj
          match j, hj with
          | 0, hj => simp at hj; subst hj; simp [Addr.add]
        case c2 => intro u hu; simp at hu; subst hu; rfl
        case c3 => unfold maxLen; omega
        case c4 => omega
        case c5 => simp; omega
        · intro v' w1 hown' hgrow _
          have R := own_step hbel hB hown hown' hgrow
          clear hown' hgrow hown
          go_wp2
          go_roundw
          case rel => exact ⟨out ++ [(c + x + y) % 65536], out.length + 1, (c + x + y) / 65536, by omega, by omega, by simp, R.1, dig_snoc hdig (by omega) (by omega), hstep, by omega, by go_num, rfl, R.2.1, R.2.2⟩
          case measure => simp [intOf]; omega
      · obtain ⟨ab, ao, rfl, alt, ac⟩ := hra.at ka
        obtain ⟨x, hx⟩ : ∃ x, Hid (ds.getD out.length 0 = x) := ⟨_, rfl⟩
        have bx := dig_get hda out.length
        rw [hx.out] at ac bx
        have hy : Hid (es.getD out.length 0 = 0) := get_past (by omega)
        have kb' : decide ((out.length : Int) < (es.length : Int)) = false := by simp; omega
        have hl := land16_u32 (c + x) (by omega) (by omega)
        have hstep : Hid (val (out ++ [(c + x) % 65536]) + pw (out.length + 1) * ((c + x) / 65536 + val (ds.drop (out.length + 1)) + val (es.drop (out.length + 1))) = val ds + val es) := by
          have h := hval.out
          rw [val_drop ds out.length, val_drop es out.length, hx.out, hy.out] at h
          have h2 := sum_step rfl h
          unfold Hid; simpa using h2
        clear hval hra hrb
        go_wp2_with (at_builtin; refine wpList_append_own _ rfl _ _ 42 rfl w.heap.size 61 i0 (.int .u32 0) 1 4 Try.underlying42 hi hz0 hz1 hz2 rfl (by decide) _ _ _ rfl (hown.alloc _) ⟨wr.heap.size, 0, none⟩ 1 1 [.int .u32 ((c + x) % 65536)] rfl rfl ?c1 ?c2 ?c3 ?c4 ?c5 ?_)
        case c1 =>
          intro j u hj
          match j, hj with
          | 0, hj => simp at hj; subst hj; simp [Addr.add]
        case c2 => intro u hu; simp at hu; subst hu; rfl
        case c3 => unfold maxLen; omega
        case c4 => omega
        case c5 => simp; omega
        · intro v' w1 hown' hgrow _
          have R := own_step hbel hB hown hown' hgrow
          clear hown' hgrow hown
          go_wp2
          go_roundw
          case rel => exact ⟨out ++ [(c + x) % 65536], out.length + 1, (c + x) / 65536, by omega, by omega, by simp, R.1, dig_snoc hdig (by omega) (by omega), hstep, by omega, by go_num, rfl, R.2.1, R.2.2⟩
          case measure => simp [intOf]; omega
    · by_cases kb : out.length < es.length
      · have hx : Hid (ds.getD out.length 0 = 0) := get_past (by omega)
        have ka' : decide ((out.length : Int) < (ds.length : Int)) = false := by simp; omega
        obtain ⟨bb, bo, rfl, blt, bc⟩ := hrb.at kb
        obtain ⟨y, hy⟩ : ∃ y, Hid (es.getD out.length 0 = y) := ⟨_, rfl⟩
        have by_ := dig_get hdb out.length
        rw [hy.out] at bc by_
        have hl := land16_u32 (c + y) (by omega) (by omega)
        have hstep : Hid (val (out ++ [(c + y) % 65536]) + pw (out.length + 1) * ((c + y) / 65536 + val (ds.drop (out.length + 1)) + val (es.drop (out.length + 1))) = val ds + val es) := by
          have h := hval.out
          rw [val_drop ds out.length, val_drop es out.length, hx.out, hy.out] at h
          have h2 := sum_step rfl h
          unfold Hid; simpa using h2
        clear hval hra hrb
        go_wp2_with (at_builtin; refine wpList_append_own _ rfl _ _ 42 rfl w.heap.size 61 i0 (.int .u32 0) 1 4 Try.underlying42 hi hz0 hz1 hz2 rfl (by decide) _ _ _ rfl (hown.alloc _) ⟨wr.heap.size, 0, none⟩ 1 1 [.int .u32 ((c + y) % 65536)] rfl rfl ?c1 ?c2 ?c3 ?c4 ?c5 ?_)
        case c1 =>
          intro j u hj
          match j, hj with
          | 0, hj => simp at hj; subst hj; simp [Addr.add]
        case c2 => intro u hu; simp at hu; subst hu; rfl
        case c3 => unfold maxLen; omega
        case c4 => omega
        case c5 => simp; omega
        · intro v' w1 hown' hgrow _
          have R := own_step hbel hB hown hown' hgrow
          clear hown' hgrow hown
          go_wp2
          go_roundw
          case rel => exact ⟨out ++ [(c + y) % 65536], out.length + 1, (c + y) / 65536, by omega, by omega, by simp, R.1, dig_snoc hdig (by omega) (by omega), hstep, by omega, by go_num, rfl, R.2.1, R.2.2⟩
          case measure => simp [intOf]; omega
      · by_cases hc : 0 < c
        · have hx : Hid (ds.getD out.length 0 = 0) := get_past (by omega)
          have ka' : decide ((out.length : Int) < (ds.length : Int)) = false := by simp; omega
          have hy : Hid (es.getD out.length 0 = 0) := get_past (by omega)
          have kb' : decide ((out.length : Int) < (es.length : Int)) = false := by simp; omega
          have hl := land16_u32 (c) (by omega) (by omega)
          have hstep : Hid (val (out ++ [(c) % 65536]) + pw (out.length + 1) * ((c) / 65536 + val (ds.drop (out.length + 1)) + val (es.drop (out.length + 1))) = val ds + val es) := by
            have h := hval.out
            rw [val_drop ds out.length, val_drop es out.length, hx.out, hy.out] at h
            have h2 := sum_step rfl h
            unfold Hid; simpa using h2
          clear hval hra hrb
          go_wp2_with (at_builtin; refine wpList_append_own _ rfl _ _ 42 rfl w.heap.size 61 i0 (.int .u32 0) 1 4 Try.underlying42 hi hz0 hz1 hz2 rfl (by decide) _ _ _ rfl (hown.alloc _) ⟨wr.heap.size, 0, none⟩ 1 1 [.int .u32 ((c) % 65536)] rfl rfl ?c1 ?c2 ?c3 ?c4 ?c5 ?_)
          case c1 =>
            intro j u hj
            match j, hj with
            | 0, hj => simp at hj; subst hj; simp [Addr.add]
          case c2 => intro u hu; simp at hu; subst hu; rfl
          case c3 => unfold maxLen; omega
          case c4 => omega
          case c5 => simp; omega
          · intro v' w1 hown' hgrow _
            have R := own_step hbel hB hown hown' hgrow
            clear hown' hgrow hown
            go_wp2
            go_roundw
            case rel => exact ⟨out ++ [(c) % 65536], out.length + 1, (c) / 65536, by omega, by omega, by simp, R.1, dig_snoc hdig (by omega) (by omega), hstep, by omega, by go_num, rfl, R.2.1, R.2.2⟩
            case measure => simp [intOf]; omega
        · have hcz : c = 0 := by omega
          subst hcz
          have hval2 : Hid (val out = val ds + val es) := by
            have h := hval.out
            rw [val_drop_past (by omega), val_drop_past (by omega)] at h
            unfold Hid; simpa using h
          have ka' : decide ((out.length : Int) < (ds.length : Int)) = false := by simp; omega
          have kb' : decide ((out.length : Int) < (es.length : Int)) = false := by simp; omega
          clear hval
          go_wp2
          go_ret
          exact ⟨_, rfl, out, row_of_own hown, hdig, hval2.out, by omega, hbel⟩
end Go.Proofs.Ytdfccjhmpgoacaa.Big
