/- The reference's Skip. -/
import Derived.Test.YtmjjghhlalaeiaaRefT
namespace Go.Proofs.Ytmjjghhlalaeiaa
open Go.RowKit

theorem skW_add : ∀ (a b n : Nat) (wh : List Nat), skW (a + b) n wh = skW a n wh ++ skW b (n + a) (skS a n wh) ∧ skS (a + b) n wh = skS b (n + a) (skS a n wh)
  | 0, b, n, wh => by simp [skW, skS]
  | a + 1, b, n, wh => by
    obtain ⟨h1, h2⟩ := skW_add a b (n + 1) (wakeS (n + 1) wh)
    rw [show a + 1 + b = (a + b) + 1 by omega]
    simp only [skW, skS]
    rw [h1, h2, show n + 1 + a = n + (a + 1) by omega, List.append_assoc]
    exact ⟨rfl, rfl⟩
theorem wake_none {n : Nat} {wh : List Nat} (hn : n ≠ 0) (h : ∀ t, wt wh t ≠ n) : wakeL n wh = [] ∧ wakeS n wh = wh := by
  refine ⟨List.eq_nil_iff_forall_not_mem.2 (fun t ht => h t ((mem_wakeL hn).1 ht)), wt_ext (wakeS_len _ _) (fun t => ?_)⟩
  rw [wt_wakeS, if_neg (h t)]
theorem skip_quiet : ∀ (k n : Nat) (wh : List Nat), (∀ t, wt wh t ≠ 0 → n + k < wt wh t) → skW k n wh = [] ∧ skS k n wh = wh
  | 0, _, _, _ => ⟨rfl, rfl⟩
  | k + 1, n, wh, h => by
    obtain ⟨h1, h2⟩ := wake_none (n := n + 1) (wh := wh) (by omega) (fun t e => by have := h t (by omega); omega)
    obtain ⟨h3, h4⟩ := skip_quiet k (n + 1) wh (fun t ht => by have := h t ht; omega)
    simp only [skW, skS]
    rw [h1, h2, h3, h4]
    simp
/-- Up to the next time, and on. -/
theorem skip_jump {r n : Nat} {wh : List Nat} (hl : Late n wh) (h0 : nextN wh ≠ 0) (hr : nextN wh ≤ n + r) :
    n < nextN wh ∧ skW r n wh = wakeL (nextN wh) wh :: skW (n + r - nextN wh) (nextN wh) (wakeS (nextN wh) wh) ∧ skS r n wh = skS (n + r - nextN wh) (nextN wh) (wakeS (nextN wh) wh) := by
  obtain ⟨⟨s, hs⟩, hle⟩ := next_some h0
  have hn : n < nextN wh := by have := hl s (by omega); omega
  obtain ⟨d, hd⟩ : ∃ d, nextN wh = n + d + 1 := ⟨nextN wh - n - 1, by omega⟩
  refine ⟨hn, ?_⟩
  obtain ⟨e1, e2⟩ := skW_add d ((n + r - nextN wh) + 1) n wh
  obtain ⟨q1, q2⟩ := skip_quiet d n wh (fun t ht => by have := hle t ht; omega)
  rw [show d + (n + r - nextN wh + 1) = r by omega, q1, q2] at e1
  rw [show d + (n + r - nextN wh + 1) = r by omega, q2] at e2
  simp only [skW, skS] at e1 e2
  rw [← hd] at e1 e2
  have hne : wakeL (nextN wh) wh ≠ [] := fun e => by
    have : s ∈ wakeL (nextN wh) wh := (mem_wakeL h0).2 hs
    rw [e] at this
    simp at this
  rw [if_neg hne] at e1
  exact ⟨by simpa using e1, e2⟩

section
variable {w w' : World} {P : Rp} {N n : Nat} {wh : List Nat}

set_option maxRecDepth 100000 in
set_option maxHeartbeats 8000000 in
theorem rskip_any (h : RQ w P N n wh) (hL : Late n wh) (hNr : ∀ t, wt wh t ≤ n + 65535) (k : Int) (hT : Tm (n + 100000)) :
    Calls Try.prog 30 #[.pointer (some ⟨P.B, 0, none⟩), .int .i64 k] w fun e w' => ∃ v, e = .returned v ∧ RowLL w' w.heap.size v (skW (skN k) n wh) ∧ RQ w' P N (n + skN k) (skS (skN k) n wh) ∧ But P.S w w' := by
  have hlt : ∀ x ∈ P.S, x < w.heap.size := fun x hx => h.lt hx
  have hK : skN k ≤ 100000 := by unfold skN; split <;> omega
  by_cases hk : 100000 < k
  · have hkk : (100000 : Int).toNat = skN k := by unfold skN; rw [if_pos hk]; rfl
    go_enter Try.func30, Try.ntmps30
    go_wp2_with fail
    go_loopw [1, 5] (fun p q wr => ∃ (rz : Int) (m : Nat) (L : List (List Nat)) (wm : List Nat), rz ≤ 100000 ∧ p = .int .i64 rz ∧ RowLL wr w.heap.size q L ∧ RQ wr P N m wm ∧ Late m wm ∧ (∀ t, wt wm t ≤ n + 65535) ∧ L ++ skW rz.toNat m wm = skW (skN k) n wh ∧ skS rz.toNat m wm = skS (skN k) n wh ∧ m + rz.toNat = n + skN k ∧ But P.S w wr) (fun p _ _ => (intOf p).toNat)
    case atStart => exact ⟨100000, n, [], wh, by omega, rfl, RowLL.nil _ _, h, hL, hNr, by rw [hkk]; rfl, by rw [hkk], by rw [hkk], But.refl _ _⟩
    case round =>
      obtain ⟨rz, m, L, wm, hrz, rfl, hr, hQ, hLt, hNm, hW, hS, hmr, hB⟩ := hrel
      have hBs := hB.size
      obtain ⟨pa, pc, rfl⟩ := hr.shape
      have hLl : L.length ≤ 100000 := by
        have h1 := skW_len (skN k) n wh
        rw [← hW, List.length_append] at h1
        omega
      by_cases hpos : 0 < rz
      · have c1 := hQ.c1
        have f1 := hQ.b.fz 1
        have HNx := rnext_any hQ
        have hTm : n + 100000 < 4000000000000000000 := hT
        by_cases hz : nextN wm = 0
        · have hd : decide (nextN wm ≠ 0) = false := by simp [hz]
          rw [hd, hz] at HNx
          obtain ⟨q1, q2⟩ := skip_quiet rz.toNat m wm (fun t ht => absurd (next_zero hz t) ht)
          rw [q1, List.append_nil] at hW
          rw [q2] at hS
          have e4 : wrap64 ((m : Int) + rz) = (m : Int) + rz := by unfold wrap64; omega
          have e4' : IntKind.i64.wrap ((m : Int) + rz) = (m : Int) + rz := by rw [IntKind.wrap_i64] <;> omega
          have hset : RQ (wr.setCell ⟨P.B, 1, none⟩ (.int .i64 ((m : Int) + rz))) P N (n + skN k) wm := by
            have := hQ.setN (n + skN k)
            rwa [show ((n + skN k : Nat) : Int) = (m : Int) + rz by omega] at this
          have HW : Hid (L = skW (skN k) n wh ∧ wm = skS (skN k) n wh) := ⟨hW, hS⟩
          clear hTm hd q1 q2 hmr hrz hW hS hz
          go_wp2_with (first
            | (go_at_call 16; refine HNx.mono ?_; rintro e w' ⟨rfl, hw⟩; subst w'))
          go_ret
          rw [← HW.out.1, ← HW.out.2]
          exact ⟨_, rfl, hr.but ((But.refl P.S wr).set (p := ⟨P.B, 1, none⟩) (by simp [Rp.S]) _) hlt, hset, hB.set (p := ⟨P.B, 1, none⟩) (by simp [Rp.S]) _⟩
        · have hd : decide (nextN wm ≠ 0) = true := by simp [hz]
          rw [hd] at HNx
          obtain ⟨⟨s, hs⟩, hle⟩ := next_some hz
          have hnm : m < nextN wm := by
            have := hLt s (by omega)
            omega
          have hnb : nextN wm ≤ n + 65535 := by rw [← hs]; exact hNm s
          have e1 : wrap64 (((nextN wm : Nat) : Int) - (m : Int)) = ((nextN wm : Nat) : Int) - (m : Int) := by unfold wrap64; omega
          have e1' : IntKind.i64.wrap (((nextN wm : Nat) : Int) - (m : Int)) = ((nextN wm : Nat) : Int) - (m : Int) := by rw [IntKind.wrap_i64] <;> omega
          by_cases hgt : m + rz.toNat < nextN wm
          · obtain ⟨q1, q2⟩ := skip_quiet rz.toNat m wm (fun t ht => by have := hle t ht; omega)
            rw [q1, List.append_nil] at hW
            rw [q2] at hS
            have e4 : wrap64 ((m : Int) + rz) = (m : Int) + rz := by unfold wrap64; omega
            have e4' : IntKind.i64.wrap ((m : Int) + rz) = (m : Int) + rz := by rw [IntKind.wrap_i64] <;> omega
            have hset : RQ (wr.setCell ⟨P.B, 1, none⟩ (.int .i64 ((m : Int) + rz))) P N (n + skN k) wm := by
              have := hQ.setN (n + skN k)
              rwa [show ((n + skN k : Nat) : Int) = (m : Int) + rz by omega] at this
            have hcmp : rz < ((nextN wm : Nat) : Int) - (m : Int) := by omega
            have HW : Hid (L = skW (skN k) n wh ∧ wm = skS (skN k) n wh) := ⟨hW, hS⟩
            clear hTm hd q1 q2 hmr hrz hW hS hz hnm hnb hgt hs hle
            generalize ((nextN wm : Nat) : Int) = nz at *
            generalize (m : Int) = mz at *
            go_wp2_with (first
              | (go_at_call 16; refine HNx.mono ?_; rintro e w' ⟨rfl, hw⟩; subst w'))
            go_ret
            rw [← HW.out.1, ← HW.out.2]
            exact ⟨_, rfl, hr.but ((But.refl P.S wr).set (p := ⟨P.B, 1, none⟩) (by simp [Rp.S]) _) hlt, hset, hB.set (p := ⟨P.B, 1, none⟩) (by simp [Rp.S]) _⟩
          · obtain ⟨_, j1, j2⟩ := skip_jump (r := rz.toNat) hLt hz (by omega)
            rw [j1] at hW
            rw [j2] at hS
            have hcmp : ((nextN wm : Nat) : Int) - (m : Int) ≤ rz := by omega
            have e2 : wrap64 (rz - (((nextN wm : Nat) : Int) - (m : Int))) = rz - (((nextN wm : Nat) : Int) - (m : Int)) := by unfold wrap64; omega
            have e2' : IntKind.i64.wrap (rz - (((nextN wm : Nat) : Int) - (m : Int))) = rz - (((nextN wm : Nat) : Int) - (m : Int)) := by rw [IntKind.wrap_i64] <;> omega
            have e3 : wrap64 (((nextN wm : Nat) : Int) - 1) = ((nextN wm : Nat) : Int) - 1 := by unfold wrap64; omega
            have e3' : IntKind.i64.wrap (((nextN wm : Nat) : Int) - 1) = ((nextN wm : Nat) : Int) - 1 := by rw [IntKind.wrap_i64] <;> omega
            have hset : RQ (wr.setCell ⟨P.B, 1, none⟩ (.int .i64 (((nextN wm : Nat) : Int) - 1))) P N (nextN wm - 1) wm := by
              have := hQ.setN (nextN wm - 1)
              rwa [show ((nextN wm - 1 : Nat) : Int) = ((nextN wm : Nat) : Int) - 1 by omega] at this
            have hbs : But P.S wr (wr.setCell ⟨P.B, 1, none⟩ (.int .i64 (((nextN wm : Nat) : Int) - 1))) := (But.refl P.S wr).set (p := ⟨P.B, 1, none⟩) (by simp [Rp.S]) _
            have HTk := rtick_any hset (by unfold Tm; omega)
            rw [show nextN wm - 1 + 1 = nextN wm by omega] at HTk
            have hlate : Late (nextN wm) (wakeS (nextN wm) wm) := fun t ht => by
              rw [wt_wakeS] at ht ⊢
              split at ht
              · exact absurd rfl ht
              · rename_i hne
                rw [if_neg hne]
                have := hle t ht
                omega
            have hNm' : ∀ t, wt (wakeS (nextN wm) wm) t ≤ n + 65535 := fun t => by
              rw [wt_wakeS]
              split
              · omega
              · exact hNm t
            have hrr : (rz - (((nextN wm : Nat) : Int) - (m : Int))).toNat = m + rz.toNat - nextN wm := by omega
            have hsz1 : (wr.setCell ⟨P.B, 1, none⟩ (.int .i64 (((nextN wm : Nat) : Int) - 1))).heap.size = wr.heap.size := by simp [World.setCell]
            have hr1 := hr.but hbs hlt
            have hmr' : nextN wm + (m + rz.toNat - nextN wm) = n + skN k := by omega
            have hdec : (rz - (((nextN wm : Nat) : Int) - (m : Int))).toNat < rz.toNat := by omega
            have hrz' : rz - (((nextN wm : Nat) : Int) - (m : Int)) ≤ 100000 := by omega
            have HH : Hid ((rz - (((nextN wm : Nat) : Int) - (m : Int))).toNat = m + rz.toNat - nextN wm ∧ rz - (((nextN wm : Nat) : Int) - (m : Int)) ≤ 100000 ∧ (rz - (((nextN wm : Nat) : Int) - (m : Int))).toNat < rz.toNat) := ⟨hrr, hrz', hdec⟩
            clear hTm hd hmr hrz hz hnm hnb hgt hs hle hrr hrz' hdec hQ hset hLt hNm
            generalize wakeS (nextN wm) wm = wm1 at *
            generalize wakeL (nextN wm) wm = wk at *
            generalize m + rz.toNat - nextN wm = r1 at *
            generalize nextN wm = nx at *
            generalize (nx : Int) = nz at *
            generalize (m : Int) = mz at *
            have hs1 : w.heap.size ≤ (wr.setCell ⟨P.B, 1, none⟩ (.int .i64 (nz - 1))).heap.size := by rw [hsz1]; exact hBs
            clear hsz1
            go_wp2_with (first
              | (go_at_call 16; refine HNx.mono ?_; rintro e w' ⟨rfl, hw⟩; subst w')
              | (go_at_call 29; refine HTk.mono ?_; rintro e w2 ⟨v2, rfl, r2, h2, b2⟩; obtain ⟨va, vc, rfl, -⟩ := r2.open'; rw [ints_len] at r2 ⊢)
              | (at_builtin; refine wpList_appL rfl _ _ rfl w.heap.size _ L rfl (hr1.but b2 hlt) _ wk (row_lower r2 hs1) rfl rfl (by omega) (Nat.le_trans hs1 b2.size) ?_; intro v3 w3 ho3 hb3; obtain ⟨oa, oc, rfl⟩ := ho3.shape))
            go_roundw
            case rel =>
              have h3' := But.of_from hb3
              have ho3' : RowLL w3 w.heap.size (.slice oa (L.length + 1) oc) (L ++ [wk]) := by rw [List.length_append] at ho3; exact ho3
              exact ⟨_, nx, L ++ [wk], wm1, HH.out.2.1, rfl, ho3', h2.but h3' (fun x hx => But.from_not (hlt x hx)), hlate, hNm', by rw [HH.out.1, List.append_assoc]; exact hW, by rw [HH.out.1]; exact hS, by rw [HH.out.1]; exact hmr', ((hB.trans hbs).trans b2).trans_new h3' (fun x hx => .inr (List.mem_range'_1.1 hx).1)⟩
            case measure =>
              simp only [intOf]
              exact HH.out.2.2
      · have hz0 : rz.toNat = 0 := by omega
        rw [hz0] at hW hS hmr
        simp only [skW, skS, List.append_nil, Nat.add_zero] at hW hS hmr
        have HW : Hid (L = skW (skN k) n wh ∧ wm = skS (skN k) n wh ∧ m = n + skN k) := ⟨hW, hS, hmr⟩
        clear hW hS hmr hz0
        go_wp2_with fail
        go_ret
        rw [← HW.out.1, ← HW.out.2.1, ← HW.out.2.2]
        exact ⟨_, rfl, hr, hQ, hB⟩
  · have hkk : k.toNat = skN k := by unfold skN; rw [if_neg hk]
    have hk' : k ≤ 100000 := by omega
    go_enter Try.func30, Try.ntmps30
    go_wp2_with fail
    go_loopw [1, 5] (fun p q wr => ∃ (rz : Int) (m : Nat) (L : List (List Nat)) (wm : List Nat), rz ≤ 100000 ∧ p = .int .i64 rz ∧ RowLL wr w.heap.size q L ∧ RQ wr P N m wm ∧ Late m wm ∧ (∀ t, wt wm t ≤ n + 65535) ∧ L ++ skW rz.toNat m wm = skW (skN k) n wh ∧ skS rz.toNat m wm = skS (skN k) n wh ∧ m + rz.toNat = n + skN k ∧ But P.S w wr) (fun p _ _ => (intOf p).toNat)
    case atStart => exact ⟨k, n, [], wh, by omega, rfl, RowLL.nil _ _, h, hL, hNr, by rw [hkk]; rfl, by rw [hkk], by rw [hkk], But.refl _ _⟩
    case round =>
      obtain ⟨rz, m, L, wm, hrz, rfl, hr, hQ, hLt, hNm, hW, hS, hmr, hB⟩ := hrel
      have hBs := hB.size
      obtain ⟨pa, pc, rfl⟩ := hr.shape
      have hLl : L.length ≤ 100000 := by
        have h1 := skW_len (skN k) n wh
        rw [← hW, List.length_append] at h1
        omega
      by_cases hpos : 0 < rz
      · have c1 := hQ.c1
        have f1 := hQ.b.fz 1
        have HNx := rnext_any hQ
        have hTm : n + 100000 < 4000000000000000000 := hT
        by_cases hz : nextN wm = 0
        · have hd : decide (nextN wm ≠ 0) = false := by simp [hz]
          rw [hd, hz] at HNx
          obtain ⟨q1, q2⟩ := skip_quiet rz.toNat m wm (fun t ht => absurd (next_zero hz t) ht)
          rw [q1, List.append_nil] at hW
          rw [q2] at hS
          have e4 : wrap64 ((m : Int) + rz) = (m : Int) + rz := by unfold wrap64; omega
          have e4' : IntKind.i64.wrap ((m : Int) + rz) = (m : Int) + rz := by rw [IntKind.wrap_i64] <;> omega
          have hset : RQ (wr.setCell ⟨P.B, 1, none⟩ (.int .i64 ((m : Int) + rz))) P N (n + skN k) wm := by
            have := hQ.setN (n + skN k)
            rwa [show ((n + skN k : Nat) : Int) = (m : Int) + rz by omega] at this
          have HW : Hid (L = skW (skN k) n wh ∧ wm = skS (skN k) n wh) := ⟨hW, hS⟩
          clear hTm hd q1 q2 hmr hrz hW hS hz
          go_wp2_with (first
            | (go_at_call 16; refine HNx.mono ?_; rintro e w' ⟨rfl, hw⟩; subst w'))
          go_ret
          rw [← HW.out.1, ← HW.out.2]
          exact ⟨_, rfl, hr.but ((But.refl P.S wr).set (p := ⟨P.B, 1, none⟩) (by simp [Rp.S]) _) hlt, hset, hB.set (p := ⟨P.B, 1, none⟩) (by simp [Rp.S]) _⟩
        · have hd : decide (nextN wm ≠ 0) = true := by simp [hz]
          rw [hd] at HNx
          obtain ⟨⟨s, hs⟩, hle⟩ := next_some hz
          have hnm : m < nextN wm := by
            have := hLt s (by omega)
            omega
          have hnb : nextN wm ≤ n + 65535 := by rw [← hs]; exact hNm s
          have e1 : wrap64 (((nextN wm : Nat) : Int) - (m : Int)) = ((nextN wm : Nat) : Int) - (m : Int) := by unfold wrap64; omega
          have e1' : IntKind.i64.wrap (((nextN wm : Nat) : Int) - (m : Int)) = ((nextN wm : Nat) : Int) - (m : Int) := by rw [IntKind.wrap_i64] <;> omega
          by_cases hgt : m + rz.toNat < nextN wm
          · obtain ⟨q1, q2⟩ := skip_quiet rz.toNat m wm (fun t ht => by have := hle t ht; omega)
            rw [q1, List.append_nil] at hW
            rw [q2] at hS
            have e4 : wrap64 ((m : Int) + rz) = (m : Int) + rz := by unfold wrap64; omega
            have e4' : IntKind.i64.wrap ((m : Int) + rz) = (m : Int) + rz := by rw [IntKind.wrap_i64] <;> omega
            have hset : RQ (wr.setCell ⟨P.B, 1, none⟩ (.int .i64 ((m : Int) + rz))) P N (n + skN k) wm := by
              have := hQ.setN (n + skN k)
              rwa [show ((n + skN k : Nat) : Int) = (m : Int) + rz by omega] at this
            have hcmp : rz < ((nextN wm : Nat) : Int) - (m : Int) := by omega
            have HW : Hid (L = skW (skN k) n wh ∧ wm = skS (skN k) n wh) := ⟨hW, hS⟩
            clear hTm hd q1 q2 hmr hrz hW hS hz hnm hnb hgt hs hle
            generalize ((nextN wm : Nat) : Int) = nz at *
            generalize (m : Int) = mz at *
            go_wp2_with (first
              | (go_at_call 16; refine HNx.mono ?_; rintro e w' ⟨rfl, hw⟩; subst w'))
            go_ret
            rw [← HW.out.1, ← HW.out.2]
            exact ⟨_, rfl, hr.but ((But.refl P.S wr).set (p := ⟨P.B, 1, none⟩) (by simp [Rp.S]) _) hlt, hset, hB.set (p := ⟨P.B, 1, none⟩) (by simp [Rp.S]) _⟩
          · obtain ⟨_, j1, j2⟩ := skip_jump (r := rz.toNat) hLt hz (by omega)
            rw [j1] at hW
            rw [j2] at hS
            have hcmp : ((nextN wm : Nat) : Int) - (m : Int) ≤ rz := by omega
            have e2 : wrap64 (rz - (((nextN wm : Nat) : Int) - (m : Int))) = rz - (((nextN wm : Nat) : Int) - (m : Int)) := by unfold wrap64; omega
            have e2' : IntKind.i64.wrap (rz - (((nextN wm : Nat) : Int) - (m : Int))) = rz - (((nextN wm : Nat) : Int) - (m : Int)) := by rw [IntKind.wrap_i64] <;> omega
            have e3 : wrap64 (((nextN wm : Nat) : Int) - 1) = ((nextN wm : Nat) : Int) - 1 := by unfold wrap64; omega
            have e3' : IntKind.i64.wrap (((nextN wm : Nat) : Int) - 1) = ((nextN wm : Nat) : Int) - 1 := by rw [IntKind.wrap_i64] <;> omega
            have hset : RQ (wr.setCell ⟨P.B, 1, none⟩ (.int .i64 (((nextN wm : Nat) : Int) - 1))) P N (nextN wm - 1) wm := by
              have := hQ.setN (nextN wm - 1)
              rwa [show ((nextN wm - 1 : Nat) : Int) = ((nextN wm : Nat) : Int) - 1 by omega] at this
            have hbs : But P.S wr (wr.setCell ⟨P.B, 1, none⟩ (.int .i64 (((nextN wm : Nat) : Int) - 1))) := (But.refl P.S wr).set (p := ⟨P.B, 1, none⟩) (by simp [Rp.S]) _
            have HTk := rtick_any hset (by unfold Tm; omega)
            rw [show nextN wm - 1 + 1 = nextN wm by omega] at HTk
            have hlate : Late (nextN wm) (wakeS (nextN wm) wm) := fun t ht => by
              rw [wt_wakeS] at ht ⊢
              split at ht
              · exact absurd rfl ht
              · rename_i hne
                rw [if_neg hne]
                have := hle t ht
                omega
            have hNm' : ∀ t, wt (wakeS (nextN wm) wm) t ≤ n + 65535 := fun t => by
              rw [wt_wakeS]
              split
              · omega
              · exact hNm t
            have hrr : (rz - (((nextN wm : Nat) : Int) - (m : Int))).toNat = m + rz.toNat - nextN wm := by omega
            have hsz1 : (wr.setCell ⟨P.B, 1, none⟩ (.int .i64 (((nextN wm : Nat) : Int) - 1))).heap.size = wr.heap.size := by simp [World.setCell]
            have hr1 := hr.but hbs hlt
            have hmr' : nextN wm + (m + rz.toNat - nextN wm) = n + skN k := by omega
            have hdec : (rz - (((nextN wm : Nat) : Int) - (m : Int))).toNat < rz.toNat := by omega
            have hrz' : rz - (((nextN wm : Nat) : Int) - (m : Int)) ≤ 100000 := by omega
            have HH : Hid ((rz - (((nextN wm : Nat) : Int) - (m : Int))).toNat = m + rz.toNat - nextN wm ∧ rz - (((nextN wm : Nat) : Int) - (m : Int)) ≤ 100000 ∧ (rz - (((nextN wm : Nat) : Int) - (m : Int))).toNat < rz.toNat) := ⟨hrr, hrz', hdec⟩
            clear hTm hd hmr hrz hz hnm hnb hgt hs hle hrr hrz' hdec hQ hset hLt hNm
            generalize wakeS (nextN wm) wm = wm1 at *
            generalize wakeL (nextN wm) wm = wk at *
            generalize m + rz.toNat - nextN wm = r1 at *
            generalize nextN wm = nx at *
            generalize (nx : Int) = nz at *
            generalize (m : Int) = mz at *
            have hs1 : w.heap.size ≤ (wr.setCell ⟨P.B, 1, none⟩ (.int .i64 (nz - 1))).heap.size := by rw [hsz1]; exact hBs
            clear hsz1
            go_wp2_with (first
              | (go_at_call 16; refine HNx.mono ?_; rintro e w' ⟨rfl, hw⟩; subst w')
              | (go_at_call 29; refine HTk.mono ?_; rintro e w2 ⟨v2, rfl, r2, h2, b2⟩; obtain ⟨va, vc, rfl, -⟩ := r2.open'; rw [ints_len] at r2 ⊢)
              | (at_builtin; refine wpList_appL rfl _ _ rfl w.heap.size _ L rfl (hr1.but b2 hlt) _ wk (row_lower r2 hs1) rfl rfl (by omega) (Nat.le_trans hs1 b2.size) ?_; intro v3 w3 ho3 hb3; obtain ⟨oa, oc, rfl⟩ := ho3.shape))
            go_roundw
            case rel =>
              have h3' := But.of_from hb3
              have ho3' : RowLL w3 w.heap.size (.slice oa (L.length + 1) oc) (L ++ [wk]) := by rw [List.length_append] at ho3; exact ho3
              exact ⟨_, nx, L ++ [wk], wm1, HH.out.2.1, rfl, ho3', h2.but h3' (fun x hx => But.from_not (hlt x hx)), hlate, hNm', by rw [HH.out.1, List.append_assoc]; exact hW, by rw [HH.out.1]; exact hS, by rw [HH.out.1]; exact hmr', ((hB.trans hbs).trans b2).trans_new h3' (fun x hx => .inr (List.mem_range'_1.1 hx).1)⟩
            case measure =>
              simp only [intOf]
              exact HH.out.2.2
      · have hz0 : rz.toNat = 0 := by omega
        rw [hz0] at hW hS hmr
        simp only [skW, skS, List.append_nil, Nat.add_zero] at hW hS hmr
        have HW : Hid (L = skW (skN k) n wh ∧ wm = skS (skN k) n wh ∧ m = n + skN k) := ⟨hW, hS, hmr⟩
        clear hW hS hmr hz0
        go_wp2_with fail
        go_ret
        rw [← HW.out.1, ← HW.out.2.1, ← HW.out.2.2]
        exact ⟨_, rfl, hr, hQ, hB⟩
end
end Go.Proofs.Ytmjjghhlalaeiaa
