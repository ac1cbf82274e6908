/- The contract of the reference's less: a difference of digits. -/
import Derived.Test.YtdfccjhmpgoacaaNPlus
namespace Go.Proofs.Ytdfccjhmpgoacaa.Big
open Go.RowKit

theorem land16_i32 (r : Int) : bits .and .i32 r 65535 = r % 65536 := by
  show IntKind.i32.wrap ((BitVec.ofInt 32 r &&& BitVec.ofInt 32 65535).toNat : Int) = r % 65536
  have e2 : (BitVec.ofInt 32 65535).toNat = 65535 := rfl
  have e3 : ∀ n : Nat, n &&& 65535 = n % 65536 := fun n => Nat.and_two_pow_sub_one_eq_mod n 16
  rw [BitVec.toNat_and, e2, e3, BitVec.toNat_ofInt, IntKind.wrap_i32]
  omega

theorem less_end {out : List Int} {n : Nat} {c V : Int} (hd : Dig out) (hl : out.length = n) (hc : -1 ≤ c) (hc1 : c ≤ 0) (h : val out + pw n * c = V) (hV : 0 ≤ V) : val out = V := by
  have h1 := val_lt hd
  rw [hl] at h1
  by_cases hz : c = 0
  · subst hz; omega
  · have : c = -1 := by omega
    subst this
    omega

set_option maxHeartbeats 2000000 in
theorem rless_any (s t : Value) (ds es : List Int) (w : World) (hra0 : Row w s ds) (hrb0 : Row w t es) (hda : Dig ds) (hdb : Dig es) (la : ds.length ≤ 1000) (lb : es.length ≤ ds.length) (hge : val es ≤ val ds) :
    Calls Try.prog 46 #[s, t] w fun e w' => ∃ v, e = .returned v ∧ ∃ os, Row w' v os ∧ Dig os ∧ val os = val ds - val es ∧ os.length ≤ ds.length ∧ Below w.heap.size w w' := by
  obtain ⟨i0, hi, hz0, hz1, hz2⟩ := info_parts infoU32
  have hr1 := hra0
  have hr2 := hrb0
  obtain ⟨oa, ca, rfl, -, -, -, -⟩ := hr1
  obtain ⟨ob, cb, rfl, -, -, -, -⟩ := hr2
  go_enter Try.func46, Try.ntmps46
  go_wp2_with fail
  go_loopw [5, 6, 10] (fun d u i wr => ∃ (out : List Int) (c : Int), -1 ≤ c ∧ c ≤ 0 ∧ out.length ≤ ds.length ∧ wr.ownsRow w.heap.size 61 1 d out.length (out.map (Value.int .u32)) ∧ Dig out ∧ Hid (val out + pw out.length * (c + val (ds.drop out.length) - val (es.drop out.length)) = val ds - val es) ∧ i = .int .i64 out.length ∧ u = .int .i32 c ∧ Below w.heap.size w wr ∧ w.heap.size ≤ wr.heap.size) (fun _ _ i _ => 1000 - (intOf i).toNat)
  case atStart => exact ⟨[], 0, by omega, by omega, by simp, World.ownsRow_nil _ _ _ _, dig_nil, (by unfold Hid; show 0 + 1 * (0 + val ds - val es) = val ds - val es; omega), rfl, rfl, Below.refl _ _, Nat.le_refl _⟩
  case round =>
    obtain ⟨out, c, c0, c1, hkm, hown, hdig, hval, rfl, rfl, hbel, hB⟩ := hrel
    have hra := hra0.below hbel
    have hrb := hrb0.below hbel
    by_cases ka : out.length < ds.length
    · by_cases kb : out.length < es.length
      · obtain ⟨ab, ao, rfl, alt, ac⟩ := hra.at ka
        obtain ⟨x, hx⟩ : ∃ x, Hid (ds.getD out.length 0 = x) := ⟨_, rfl⟩
        have bx := dig_get hda out.length
        rw [hx.out] at ac bx
        obtain ⟨bb, bo, rfl, blt, bc⟩ := hrb.at kb
        obtain ⟨y, hy⟩ : ∃ y, Hid (es.getD out.length 0 = y) := ⟨_, rfl⟩
        have by_ := dig_get hdb out.length
        rw [hy.out] at bc by_
        have hl := land16_i32 (c + x - y)
        have hstep : Hid (val (out ++ [(c + x - y) % 65536]) + pw (out.length + 1) * ((c + x - y) / 65536 + val (ds.drop (out.length + 1)) - val (es.drop (out.length + 1))) = val ds - val es) := by
          have h := hval.out
          rw [val_drop ds out.length, val_drop es out.length, hx.out, hy.out] at h
          have h2 := diff_step rfl h
          exact h2
        clear hval hra hrb
        go_wp2_with (at_builtin; refine wpList_append_own _ rfl _ _ 42 rfl w.heap.size 61 i0 (.int .u32 0) 1 4 Try.underlying42 hi hz0 hz1 hz2 rfl (by decide) _ _ _ rfl (hown.alloc _) ⟨wr.heap.size, 0, none⟩ 1 1 [.int .u32 ((c + x - y) % 65536)] rfl rfl ?c1 ?c2 ?c3 ?c4 ?c5 ?_)
        case c1 =>
          intro j u hj
          match j, hj with
          | 0, hj => simp at hj; subst hj; simp [Addr.add]
        case c2 => intro u hu; simp at hu; subst hu; rfl
        case c3 => unfold maxLen; omega
        case c4 => omega
        case c5 => simp; omega
        · intro v' w1 hown' hgrow _
          have R := own_step hbel hB hown hown' hgrow
          clear hown' hgrow hown
          go_wp2
          go_roundw
          case rel => exact ⟨out ++ [(c + x - y) % 65536], (c + x - y) / 65536, by omega, by omega, by simp; omega, R.1, dig_snoc hdig (by omega) (by omega), by simpa using hstep, by simp, rfl, R.2.1, R.2.2⟩
          case measure => simp [intOf]; omega
      · obtain ⟨ab, ao, rfl, alt, ac⟩ := hra.at ka
        obtain ⟨x, hx⟩ : ∃ x, Hid (ds.getD out.length 0 = x) := ⟨_, rfl⟩
        have bx := dig_get hda out.length
        rw [hx.out] at ac bx
        have hy : Hid (es.getD out.length 0 = 0) := get_past (by omega)
        have kb' : decide ((out.length : Int) < (es.length : Int)) = false := by simp; omega
        have hl := land16_i32 (c + x)
        have hstep : Hid (val (out ++ [(c + x) % 65536]) + pw (out.length + 1) * ((c + x) / 65536 + val (ds.drop (out.length + 1)) - val (es.drop (out.length + 1))) = val ds - val es) := by
          have h := hval.out
          rw [val_drop ds out.length, val_drop es out.length, hx.out, hy.out] at h
          have h2 := diff_step rfl h
          unfold Hid; simpa using h2
        clear hval hra hrb
        go_wp2_with (at_builtin; refine wpList_append_own _ rfl _ _ 42 rfl w.heap.size 61 i0 (.int .u32 0) 1 4 Try.underlying42 hi hz0 hz1 hz2 rfl (by decide) _ _ _ rfl (hown.alloc _) ⟨wr.heap.size, 0, none⟩ 1 1 [.int .u32 ((c + x) % 65536)] rfl rfl ?c1 ?c2 ?c3 ?c4 ?c5 ?_)
        case c1 =>
          intro j u hj
          match j, hj with
          | 0, hj => simp at hj; subst hj; simp [Addr.add]
        case c2 => intro u hu; simp at hu; subst hu; rfl
        case c3 => unfold maxLen; omega
        case c4 => omega
        case c5 => simp; omega
        · intro v' w1 hown' hgrow _
          have R := own_step hbel hB hown hown' hgrow
          clear hown' hgrow hown
          go_wp2
          go_roundw
          case rel => exact ⟨out ++ [(c + x) % 65536], (c + x) / 65536, by omega, by omega, by simp; omega, R.1, dig_snoc hdig (by omega) (by omega), by simpa using hstep, by simp, rfl, R.2.1, R.2.2⟩
          case measure => simp [intOf]; omega
    · have hval2 : Hid (val out = val ds - val es) := by
        have h := hval.out
        rw [val_drop_past (by omega), val_drop_past (by omega)] at h
        exact less_end hdig rfl c0 c1 (by simpa using h) (by omega)
      have ka' : decide ((out.length : Int) < (ds.length : Int)) = false := by simp; omega
      clear hval
      go_wp2
      go_ret
      exact ⟨_, rfl, out, row_of_own hown, hdig, hval2.out, hkm, hbel⟩
end Go.Proofs.Ytdfccjhmpgoacaa.Big
