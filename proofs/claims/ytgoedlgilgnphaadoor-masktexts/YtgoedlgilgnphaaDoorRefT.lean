/- Contract of the reference's Turn. -/
import Derived.Test.YtgoedlgilgnphaaDoorRefs
namespace Go.Proofs.YtgoedlgilgnphaaDoor
open Go.RowKit Go.Shelf

theorem ints_below {w w' : World} {a : Option Addr} {xs : List Int} (h : Ints w a xs) (hb : Below w.heap.size w w') : Ints w' a xs := by
  intro j x hx
  obtain ⟨b, o, e, hc⟩ := h j x hx
  refine ⟨b, o, e, ?_⟩
  have hlt : b < w.heap.size := by
    apply Nat.lt_of_not_le
    intro hle
    have : w.heap[b]? = none := Array.getElem?_eq_none hle
    simp [World.cell?, this] at hc
  exact (hb.cell (p := ⟨b, o + j, none⟩) hlt).trans hc

theorem ofN_toI (f : Nat → Nat) (hf : ∀ i, f i < 64) (l : List Nat) : ofN (toI (l.map f)) = orBits f l := by
  unfold ofN orBits toI
  rw [List.map_map, List.foldl_map]
  congr 1
  funext a i
  have e : bitN (((fun x : Nat => (x : Int)) ∘ f) i) = 2 ^ f i := by
    show bitN ((f i : Nat) : Int) = 2 ^ f i
    have := hf i
    unfold bitN
    rw [if_pos (by omega)]
    rfl
  rw [e]

theorem tmod_cases (b : Int) (k : Nat) (h : 1 ≤ k) : (b.tmod k < 0 ∧ b.tmod k + k = ((b % (k : Int)).toNat : Int)) ∨ (0 ≤ b.tmod k ∧ b.tmod k = ((b % (k : Int)).toNat : Int)) := by
  have h1 := tmod_bounds b k h
  have h2 := tmod_step b k h
  rw [Int.tmod_eq_emod_of_nonneg (by omega)] at h2
  by_cases hn : b.tmod k < 0
  · left
    rw [Int.emod_eq_of_lt (by omega) (by omega)] at h2
    exact ⟨hn, h2⟩
  · right
    rw [Int.add_emod_right, Int.emod_eq_of_lt (by omega) (by omega)] at h2
    exact ⟨by omega, h2⟩

/-- The places of the first j members. -/
def placed (m k s j : Nat) : List Nat := (((mem m).take j).filter (fun i => decide (i < k))).map (fun i => (i + s) % k)

theorem placed_len (m k s j : Nat) : (placed m k s j).length ≤ 64 := by
  unfold placed
  rw [List.length_map]
  have h1 := List.length_filter_le (fun i => decide (i < k)) ((mem m).take j)
  have h2 : ((mem m).take j).length ≤ (mem m).length := by rw [List.length_take]; omega
  have := mem_length_le m
  omega

theorem placed_end (m k s : Nat) (h1 : 1 ≤ k) (h2 : k ≤ 64) : ofN (toI (placed m k s (mem m).length)) = turnN m k ((s : Nat) : Int) ∨ ¬ s < k := by
  by_cases hs : s < k
  · left
    unfold placed
    rw [List.take_length, ofN_toI _ (fun i => by have := Nat.mod_lt (i + s) (show 0 < k by omega); omega)]
    unfold turnN
    rw [if_neg (by omega)]
    have e : min ((k : Int).toNat) 64 = k := by omega
    rw [e, mem_and_below]
    have e2 : (((s : Nat) : Int) % (k : Int)).toNat = s := by
      rw [Int.emod_eq_of_lt (by omega) (by omega)]; rfl
    rw [e2]
  · exact .inr hs

theorem turnN_mod (m k : Nat) (b : Int) (h1 : 1 ≤ k) (h2 : k ≤ 64) : turnN m k (((b % (k : Int)).toNat : Nat) : Int) = turnN m k b := by
  have f0 := Int.emod_nonneg b (b := (k : Int)) (by omega)
  have f1 := Int.emod_lt_of_pos b (b := (k : Int)) (by omega)
  unfold turnN
  rw [if_neg (by omega), if_neg (by omega)]
  have e : min ((k : Int).toNat) 64 = k := by omega
  rw [e, Int.toNat_of_nonneg f0, Int.emod_emod_of_dvd _ (Int.dvd_refl _)]

set_option maxRecDepth 100000 in
set_option maxHeartbeats 4000000 in
theorem rturn_core (m k : Nat) (n b r : Int) (s : Nat) (hm : m < 18446744073709551616) (hk1 : 1 ≤ k) (hk2 : k ≤ 64) (hs : s < k) (hn : (n = k ∧ n ≤ 64) ∨ (k = 64 ∧ 64 < n)) (hr : b.tmod k = r) (hrs : (r < 0 ∧ r + k = s) ∨ (0 ≤ r ∧ r = s)) (w : World) :
    Calls Tryd.prog 32 #[.int .u64 m, .int .i64 n, .int .i64 b] w fun e w' => e = .returned (.int .u64 (turnN m k (s : Int) : Nat)) ∧ Below w.heap.size w w' := by
  obtain ⟨i0, hi, hz0, hz1, hz2⟩ := info_parts Tryd.info3
  have hn1 : ¬ n < 1 := by omega
  have hk0 : (k : Int) ≠ 0 := by omega
  rcases hn with ⟨rfl, hn2⟩ | ⟨rfl, hn2⟩
  · rcases hrs with ⟨hr0, hrs⟩ | ⟨hr0, rfl⟩
    all_goals
      go_enter Tryd.func32, Tryd.ntmps32
      go_wp2_with (go_at_call 9; refine (rall_any m hm _).mono ?_; rintro e wA ⟨v, rfl, hrow, hB⟩; obtain ⟨a, c, rfl, hints⟩ := hrow.ints; clear hrow)
      have hlen1 : (memI m).length ≤ (mem m).length := Nat.le_of_eq (toI_length _)
      have hlen2 : (mem m).length ≤ (memI m).length := Nat.le_of_eq (toI_length _).symm
      have hmemlen := mem_length_le m
      go_loopw [7, 25] (fun v q wr => ∃ j : Nat, j ≤ (mem m).length ∧ q = .int .i64 j ∧ RowI wr wA.heap.size v (toI (placed m k s j)) ∧ Below wA.heap.size wA wr) (fun _ q _ => 64 - (intOf q).toNat)
      case atStart => exact ⟨0, by omega, rfl, RowI.nil _ _, Below.refl _ _⟩
      case round =>
        obtain ⟨j, hj, rfl, hrow, hBr⟩ := hrel
        have hbs := hBr.size
        by_cases hlt : j < (mem m).length
        · obtain ⟨b', o, rfl, hc⟩ := ints_below hints hBr j (((mem m)[j] : Nat) : Int) (by simp [memI, toI, hlt])
          have hx64 := mem_lt64 ((mem m)[j]) (List.getElem_mem hlt)
          have et : (mem m).take (j + 1) = (mem m).take j ++ [(mem m)[j]] := by rw [List.take_add_one]; simp [hlt]
          have hpl := placed_len m k s j
          have hpn : placed m k s (j + 1) = placed m k s j ++ (if (mem m)[j] < k then [((mem m)[j] + s) % k] else []) := by
            unfold placed
            rw [et, List.filter_append, List.map_append]
            congr 1
            by_cases hx : (mem m)[j] < k <;> simp [hx]
          generalize (mem m)[j] = x at hc hx64 hpn
          clear et
          have h1 : (j : Int) < ((memI m).length : Int) := by omega
          by_cases hx : x < k
          · rw [if_pos hx] at hpn
            have hx' : (x : Int) < (k : Int) := by omega
            have em : toI (placed m k s (j + 1)) = toI (placed m k s j) ++ [(((x + s) % k : Nat) : Int)] := by rw [hpn, toI_append]; rfl
            have e0 : ((x : Int) + (s : Int)) % (k : Int) = (((x + s) % k : Nat) : Int) := by simp
            have hml2 := toI_length (placed m k s j)
            have hrow' := hrow
            unfold RowI at hrow'
            clear hpn
            generalize (x + s) % k = z at em e0
            generalize toI (placed m k s j) = ys at hrow' hml2 em hrow
            go_wp2_with (at_builtin; refine wpList_append_own _ rfl _ _ 24 rfl wA.heap.size 3 i0 (.int .i64 0) 1 8 Tryd.underlying24 hi hz0 hz1 hz2 rfl (by decide) _ _ _ rfl (hrow'.alloc _) ⟨_, 0, none⟩ 1 1 [.int .i64 z] rfl rfl (cell_one_new _ _ _) (by simp [Value.oneCell']) (by unfold maxLen; omega) (by omega) (by simp; omega) ?_; intro v' w1 hown' hgrow _)
            go_roundw
            case rel =>
              refine ⟨j + 1, by omega, by simp, ?_, grown_below hBr hrow hgrow⟩
              rw [em]
              unfold RowI
              simpa using hown'
            case measure =>
              simp [intOf]
              omega
          · rw [if_neg hx, List.append_nil] at hpn
            have hx' : (k : Int) ≤ (x : Int) := by omega
            go_wp2_with fail
            go_roundw
            case rel => exact ⟨j + 1, by omega, by simp, by rw [hpn]; exact hrow, hBr⟩
            case measure =>
              simp [intOf]
              omega
        · obtain rfl : j = (mem m).length := by omega
          have hend := (placed_end m k s (by omega) (by omega)).resolve_right (fun h => h hs)
          obtain ⟨a2, c2, rfl, hints2⟩ := hrow.ints
          have hl2 : (toI (placed m k s (mem m).length)).length ≤ 1000000 := by rw [toI_length]; have := placed_len m k s (mem m).length; omega
          have hof := rof_any a2 c2 _ wr hl2 hints2
          rw [hend] at hof
          clear hend hl2 hrow hints2
          have h1 : ((memI m).length : Int) ≤ ((mem m).length : Int) := by omega
          generalize (toI (placed m k s (mem m).length)).length = L2 at hof
          go_wp2_with (go_at_call 28; refine hof.mono ?_; rintro e w' ⟨rfl, rfl⟩)
          go_ret
          exact ⟨rfl, hB.trans (hBr.mono hB.size)⟩
  · change b.tmod 64 = r at hr
    change (r < 0 ∧ r + 64 = s) ∨ (0 ≤ r ∧ r = s) at hrs
    clear hk0
    rcases hrs with ⟨hr0, hrs⟩ | ⟨hr0, rfl⟩
    all_goals
      go_enter Tryd.func32, Tryd.ntmps32
      go_wp2_with (go_at_call 9; refine (rall_any m hm _).mono ?_; rintro e wA ⟨v, rfl, hrow, hB⟩; obtain ⟨a, c, rfl, hints⟩ := hrow.ints; clear hrow)
      have hlen1 : (memI m).length ≤ (mem m).length := Nat.le_of_eq (toI_length _)
      have hlen2 : (mem m).length ≤ (memI m).length := Nat.le_of_eq (toI_length _).symm
      have hmemlen := mem_length_le m
      go_loopw [7, 25] (fun v q wr => ∃ j : Nat, j ≤ (mem m).length ∧ q = .int .i64 j ∧ RowI wr wA.heap.size v (toI (placed m 64 s j)) ∧ Below wA.heap.size wA wr) (fun _ q _ => 64 - (intOf q).toNat)
      case atStart => exact ⟨0, by omega, rfl, RowI.nil _ _, Below.refl _ _⟩
      case round =>
        obtain ⟨j, hj, rfl, hrow, hBr⟩ := hrel
        have hbs := hBr.size
        by_cases hlt : j < (mem m).length
        · obtain ⟨b', o, rfl, hc⟩ := ints_below hints hBr j (((mem m)[j] : Nat) : Int) (by simp [memI, toI, hlt])
          have hx64 := mem_lt64 ((mem m)[j]) (List.getElem_mem hlt)
          have et : (mem m).take (j + 1) = (mem m).take j ++ [(mem m)[j]] := by rw [List.take_add_one]; simp [hlt]
          have hpl := placed_len m 64 s j
          have hpn : placed m 64 s (j + 1) = placed m 64 s j ++ (if (mem m)[j] < 64 then [((mem m)[j] + s) % 64] else []) := by
            unfold placed
            rw [et, List.filter_append, List.map_append]
            congr 1
            by_cases hx : (mem m)[j] < 64 <;> simp [hx]
          generalize (mem m)[j] = x at hc hx64 hpn
          clear et
          have h1 : (j : Int) < ((memI m).length : Int) := by omega
          by_cases hx : x < 64
          · rw [if_pos hx] at hpn
            have hx' : (x : Int) < (64 : Int) := by omega
            have em : toI (placed m 64 s (j + 1)) = toI (placed m 64 s j) ++ [(((x + s) % 64 : Nat) : Int)] := by rw [hpn, toI_append]; rfl
            have e0 : ((x : Int) + (s : Int)) % (64 : Int) = (((x + s) % 64 : Nat) : Int) := by simp
            have hml2 := toI_length (placed m 64 s j)
            have hrow' := hrow
            unfold RowI at hrow'
            clear hpn
            generalize (x + s) % 64 = z at em e0
            generalize toI (placed m 64 s j) = ys at hrow' hml2 em hrow
            go_wp2_with (at_builtin; refine wpList_append_own _ rfl _ _ 24 rfl wA.heap.size 3 i0 (.int .i64 0) 1 8 Tryd.underlying24 hi hz0 hz1 hz2 rfl (by decide) _ _ _ rfl (hrow'.alloc _) ⟨_, 0, none⟩ 1 1 [.int .i64 z] rfl rfl (cell_one_new _ _ _) (by simp [Value.oneCell']) (by unfold maxLen; omega) (by omega) (by simp; omega) ?_; intro v' w1 hown' hgrow _)
            go_roundw
            case rel =>
              refine ⟨j + 1, by omega, by simp, ?_, grown_below hBr hrow hgrow⟩
              rw [em]
              unfold RowI
              simpa using hown'
            case measure =>
              simp [intOf]
              omega
          · exact absurd hx64 hx
        · obtain rfl : j = (mem m).length := by omega
          have hend := (placed_end m 64 s (by omega) (by omega)).resolve_right (fun h => h hs)
          obtain ⟨a2, c2, rfl, hints2⟩ := hrow.ints
          have hl2 : (toI (placed m 64 s (mem m).length)).length ≤ 1000000 := by rw [toI_length]; have := placed_len m 64 s (mem m).length; omega
          have hof := rof_any a2 c2 _ wr hl2 hints2
          rw [hend] at hof
          clear hend hl2 hrow hints2
          have h1 : ((memI m).length : Int) ≤ ((mem m).length : Int) := by omega
          generalize (toI (placed m 64 s (mem m).length)).length = L2 at hof
          go_wp2_with (go_at_call 28; refine hof.mono ?_; rintro e w' ⟨rfl, rfl⟩)
          go_ret
          exact ⟨rfl, hB.trans (hBr.mono hB.size)⟩

theorem rturn_any (m : Nat) (n b : Int) (hm : m < 18446744073709551616) (w : World) :
    Calls Tryd.prog 32 #[.int .u64 m, .int .i64 n, .int .i64 b] w fun e w' => e = .returned (.int .u64 (turnN m n b : Nat)) ∧ Below w.heap.size w w' := by
  by_cases h : n < 1
  · have e0 : ((turnN m n b : Nat) : Int) = 0 := by unfold turnN; rw [if_pos h]; rfl
    rw [e0]
    go_enter Tryd.func32, Tryd.ntmps32
    go_wp2_with fail
    go_ret
    exact ⟨rfl, Below.refl _ w⟩
  · obtain ⟨k, hk⟩ : ∃ k : Nat, k = min n.toNat 64 := ⟨_, rfl⟩
    have k1 : 1 ≤ k := by omega
    have k2 : k ≤ 64 := by omega
    have f0 := Int.emod_nonneg b (b := (k : Int)) (by omega)
    have f1 := Int.emod_lt_of_pos b (b := (k : Int)) (by omega)
    have e1 : turnN m n b = turnN m k b := by
      unfold turnN
      rw [if_neg h, if_neg (by omega)]
      have e2 : min ((k : Int).toNat) 64 = k := by omega
      rw [e2, ← hk]
    rw [e1, ← turnN_mod m k b k1 k2]
    have htc := tmod_cases b k k1
    exact rturn_core m k n b (b.tmod k) (b % (k : Int)).toNat hm k1 k2 (by omega) (by omega) rfl htc w

end Go.Proofs.YtgoedlgilgnphaaDoor
