/- The document's Drop. -/
import Derived.Test.YtmbpmcgppnanpaaJnJ
namespace Go.Proofs.Ytmbpmcgppnanpaa.Jn
open Go Go.RowKit Go.Proofs.Ytmbpmcgppnanpaa.Bs
open Go.Proofs.Ytmbpmcgppnanpaa.Ids (right indexI ageI idI rindex_any)
set_option linter.unusedSimpArgs false

theorem out_take {t : Int} {xs : List Int} {j : Nat} {x : Int} (h : xs[j]? = some x) : out t (xs.take (j + 1)) = if x = t then out t (xs.take j) else out t (xs.take j) ++ [x] := by
  rw [List.take_add_one, h]
  unfold out
  rw [List.filter_append]
  by_cases e : x = t
  · rw [if_pos e]
    simp [e]
  · rw [if_neg e]
    simp [e]
theorem out_len (t : Int) (xs : List Int) : (out t xs).length ≤ xs.length := List.length_filter_le _ _
theorem out_less {t : Int} {xs : List Int} (h : t ∈ xs) : (out t xs).length < xs.length := by
  induction xs with
  | nil => cases h
  | cons x r ih =>
    unfold out at *
    by_cases e : x = t
    · rw [List.filter_cons_of_neg (by simp [e]), List.length_cons]
      have := List.length_filter_le (fun y => !(y == t)) r
      omega
    · rw [List.filter_cons_of_pos (by simpa using e), List.length_cons, List.length_cons]
      have := ih ((List.mem_cons.1 h).resolve_left (fun h => e h.symm))
      omega
theorem out_same {t : Int} {xs : List Int} (h : t ∉ xs) : out t xs = xs := by
  unfold out
  rw [List.filter_eq_self]
  intro x hx
  have : x ≠ t := fun e => h (e ▸ hx)
  simpa using this
section
set_option maxRecDepth 100000
variable {w w' : World} {M n : Nat} {R R' : List Nat} {σ : St}
set_option maxHeartbeats 4000000 in
theorem drop_any (hQ : RQ w M R n σ) (t : Int) :
    Calls Try.prog 26 #[.pointer (some ⟨M, 0, none⟩), .int .i64 t] w fun e w' => e = .returned (.bool (dropB σ t)) ∧ ∃ R', RQ w' M R' n (dropS σ t) ∧ Step R w R' w' := by
  obtain ⟨hok, G, vs, h⟩ := (show RQ w M R n σ from hQ)
  obtain ⟨c, c0⟩ := h.c0
  have hn := hok.n2
  have hok2 := hok.drop t
  have HM : ∀ wr, Below w.heap.size w wr → RM wr M G R n vs σ := fun wr hb => h.below hb
  have FIN : ∀ (k : Nat) wr w3 v3, k < n → inR σ t = some k → Below w.heap.size w wr → But [] wr w3 → RowI w3 wr.heap.size v3 (out t (rw σ k).q) → ∃ R', RQ (w3.setCell ⟨G, k * 4 + 3, none⟩ v3) M R' n (dropS σ t) ∧ Step R w R' (w3.setCell ⟨G, k * 4 + 3, none⟩ v3) := fun k wr w3 v3 hk hin hb hb3 hr3 => by
    obtain ⟨h4, s4⟩ := (h.below hb).storeW hb3 hr3 hk
    have e : dropS σ t = σ.set k ⟨(rw σ k).id, (rw σ k).en, (rw σ k).va, out t (rw σ k).q⟩ := by unfold dropS; rw [hin]
    rw [e] at hok2 ⊢
    exact ⟨_, ⟨hok2, _, _, h4⟩, (Step.keep (.of_below hb)).trans s4⟩
  clear hok2
  go_enter Try.func26, Try.ntmps26
  go_wp2_with fail
  go_loopw [15, 5, 6, 7, 9] (fun v _ _ _ _ wr => ∃ j : Nat, j ≤ n ∧ v = .int .i64 j ∧ Below w.heap.size w wr ∧ ∀ i, i < j → t ∉ (rw σ i).q) (fun v _ _ _ _ _ => 1024 - (intOf v).toNat)
  case atStart => exact ⟨0, Nat.zero_le _, rfl, Below.refl _ _, fun i hi => by omega⟩
  case round =>
    obtain ⟨j, hj, rfl, hbw, hB⟩ := hrel
    by_cases hlt : j < n
    · have hlt' : (j : Int) < (n : Int) := by omega
      have hm := HM _ hbw
      have r0 := hm.r0 hlt
      have r1 := hm.r1 hlt
      have r2 := hm.r2 hlt
      have r3 := hm.r3 hlt
      obtain ⟨a, cW, e4, hc⟩ := (hm.rw j hlt).rd
      rw [e4] at r3
      have hlen := hok.qlen hlt
      have HI : t ∈ (rw σ j).q → inR σ t = some j := fun hm => hok.inR_at hlt hm hB
      replace HI := Hid.mk HI
      have HF : ∀ wx, Below w.heap.size w wx → wx.cell? ⟨M, 0, none⟩ = some (.slice (some ⟨G, 0, none⟩) n c) ∧ (∃ v, wx.cell? ⟨G, j * 4 + 3, none⟩ = some v) ∧ wx.frozen? ⟨G, j * 4 + 3, none⟩ = false := fun wx hb => ⟨cell_on hb c0, ⟨_, (HM wx hb).r3 hlt⟩, (HM wx hb).fz _⟩
      replace FIN := fun wr w3 v3 => FIN j wr w3 v3 hlt
      clear HM h hm e4
      generalize hxs : (rw σ j).q = xs at *
      replace hxs := Hid.mk hxs
      generalize (rw σ j).id = ri at *
      generalize (rw σ j).en = re at *
      generalize (rw σ j).va = rv at *
      have hbp : Below w.heap.size w (wr.alloc (.cells #[.int .i64 ri, .bool re, .int .i64 rv, .slice a xs.length cW] 74)) := hbw.alloc hbw.size _
      have hb1 : Below wr.heap.size wr (wr.alloc (.cells #[.int .i64 ri, .bool re, .int .i64 rv, .slice a xs.length cW] 74)) := (Below.refl _ _).alloc (Nat.le_refl _) _
      replace hc : ∀ j x, xs[j]? = some x → ∃ g, a = some ⟨g, 0, none⟩ ∧ (wr.alloc (.cells #[.int .i64 ri, .bool re, .int .i64 rv, .slice a xs.length cW] 74)).cell? ⟨g, j, none⟩ = some (.int .i64 x) := fun j x hx => by
        obtain ⟨g, e1, e2⟩ := hc j x hx
        exact ⟨g, e1, cell_on hb1 e2⟩
      have b3 : (wr.alloc (.cells #[.int .i64 ri, .bool re, .int .i64 rv, .slice a xs.length cW] 74)).cell? ⟨wr.heap.size, 3, none⟩ = some (.slice a xs.length cW) := by simp [go_sem]
      clear hb1
      go_wp2_with fail
      generalize wr.alloc _ = wp at *
      generalize wr.heap.size = bx at *
      have R0 : RowI wp wp.heap.size (.slice none 0 0) [] := ⟨by simp, .inl ⟨rfl, rfl⟩⟩
      go_loopw [23, 7, 9] (fun v u _ wx => ∃ i : Nat, i ≤ xs.length ∧ v = .int .i64 i ∧ RowI wx wp.heap.size u (out t (xs.take i)) ∧ Below wp.heap.size wp wx) (fun v _ _ _ => 1024 - (intOf v).toNat)
      case atStart => exact ⟨0, Nat.zero_le _, rfl, R0, Below.refl _ _⟩
      case round =>
        clear R0
        obtain ⟨i, hi, rfl, hR, hbx⟩ := hrel
        by_cases hx0 : i < xs.length
        · have hx := List.getElem?_eq_getElem hx0
          obtain ⟨g, rfl, x0⟩ := hc i _ hx
          replace x0 := cell_on hbx x0
          have hx0' : (i : Int) < (xs.length : Int) := by omega
          have hT := out_take (t := t) hx
          have hTl : (out t (xs.take i)).length ≤ 10000 := by have := out_len t (xs.take i); rw [List.length_take] at this; omega
          by_cases e : xs[i] = t
          · rw [if_pos e] at hT
            have HT : Hid (out t (xs.take (i + 1)) = out t (xs.take i)) := hT
            have hne : (xs[i] != t) = false := by simpa using e
            rw [e] at x0
            clear hT
            generalize out t (xs.take i) = TJ at *
            go_wp2_with fail
            go_roundw
            case rel => exact ⟨i + 1, by omega, by simp, by rw [HT.out]; exact hR, hbx⟩
            case measure =>
              simp [intOf]
              omega
          · rw [if_neg e] at hT
            have HT : Hid (out t (xs.take (i + 1)) = out t (xs.take i) ++ [xs[i]]) := hT
            have hne : (xs[i] != t) = true := by simpa using e
            clear hT
            generalize out t (xs.take i) = TJ at *
            generalize xs[i] = x at *
            have hR1 := hR.below ((Below.refl _ wr).alloc (Nat.le_refl _) (.cells #[.int .i64 x] 3))
            have hlow := fun k e => (rlow hR k e).1
            have hsz : wp.heap.size ≤ (wr.alloc (.cells #[.int .i64 x] 3)).heap.size := by have := hbx.size; simp; omega
            have hbq : Below wp.heap.size wp (wr.alloc (.cells #[.int .i64 x] 3)) := hbx.alloc hbx.size _
            go_wp2_with (first
              | (at_builtin; refine wpList_app1 rfl (.tmp 30) (.tmp 32) rfl wp.heap.size _ TJ rfl hR1 _ _ x rfl (reads_one _ _) hTl hsz ?_; intro v3 w3 hr3 hg3 ha3; have hb3 := hbq.trans (grown_below hg3 hsz hlow); clear hR1 hg3 ha3 hbq hsz hR))
            go_roundw
            case rel => exact ⟨i + 1, by omega, by simp, by rw [HT.out]; exact hr3, hb3⟩
            case measure =>
              simp [intOf]
              omega
        · obtain rfl : i = xs.length := by omega
          rw [List.take_of_length_le (Nat.le_refl _)] at hR
          obtain ⟨ua, uc, rfl⟩ := own_shape hR
          have hbz : Below w.heap.size w wr := hbp.trans (hbx.mono hbp.size)
          obtain ⟨g1, ⟨v0, g2⟩, g3⟩ := HF _ hbz
          replace b3 := cell_on hbx b3
          by_cases hm : t ∈ xs
          · have hless : ((out t xs).length : Int) < (xs.length : Int) := by have := out_less hm; omega
            have K := HI.out hm
            obtain ⟨R2, f1, f2⟩ := FIN _ _ _ K hbp (.of_below hbx) hR
            have KB : Hid (dropB σ t = true) := by
              show dropB σ t = true
              unfold dropB
              rw [K]
              rfl
            clear hm K hB hc HI hxs FIN HF hR
            generalize (out t xs).length = lq at *
            go_wp2_with fail
            go_ret
            exact ⟨by rw [KB.out]; rfl, R2, f1, f2⟩
          · have hless : ¬ ((out t xs).length : Int) < (xs.length : Int) := by rw [out_same hm]; omega
            have hB' : ∀ k, k < j + 1 → t ∉ (rw σ k).q := fun k hk => by
              by_cases h1 : k = j
              · subst h1
                rw [hxs.out]
                exact hm
              · exact hB k (by omega)
            clear hm hB hc HI hxs FIN HF hR
            generalize (out t xs).length = lq at *
            go_wp2_with fail
            go_roundw
            case rel => exact ⟨j + 1, by omega, by simp, hbz, hB'⟩
            case measure =>
              simp [intOf]
              omega
    · obtain rfl : j = n := by omega
      have K1 : Hid (inR σ t = none) := hok.inR_none hB
      clear hB FIN
      go_wp2_with fail
      go_ret
      have e := K1.out
      exact ⟨by unfold dropB; rw [e]; rfl, R, by unfold dropS; rw [e]; exact hQ.keep (.of_below hbw), Step.keep (.of_below hbw)⟩
end
end Go.Proofs.Ytmbpmcgppnanpaa.Jn
