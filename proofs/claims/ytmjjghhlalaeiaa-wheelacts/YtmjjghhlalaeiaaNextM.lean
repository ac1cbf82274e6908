/- What the wheel's Next wants: the least of some ids by MinFunc; the first list in turn that has some has the least time. -/
import Derived.Test.YtmjjghhlalaeiaaSortId
import Derived.Test.YtmjjghhlalaeiaaCat
import Derived.Test.YtmjjghhlalaeiaaRefT
namespace Go.Proofs.Ytmjjghhlalaeiaa
open Go.RowKit Go.Sort

theorem cfU_le {ut : Nat → Int} {N : Nat} {x y : Fin N} : (cfU ut N x y < 0 → ut x.1 ≤ ut y.1) ∧ (¬ cfU ut N x y < 0 → ut y.1 ≤ ut x.1) := by
  have h := ltOf_cfU ut N x y
  unfold ltOf ltU at h
  rw [decide_eq_decide] at h
  constructor
  · intro k
    have := h.1 k
    omega
  · intro k
    have : ¬ (ut x.1 < ut y.1 ∨ (ut x.1 = ut y.1 ∧ x.1 < y.1)) := fun e => k (h.2 e)
    omega
theorem pick_spec {N : Nat} [Inhabited (Fin N)] (ut : Nat → Int) (d : Array (Fin N)) : ∀ i, i < d.size → Lib.pickBy (fun x m => decide (cfU ut N x m < 0)) d i ∈ d ∧ ∀ j, j ≤ i → ut (Lib.pickBy (fun x m => decide (cfU ut N x m < 0)) d i).1 ≤ ut d[j]!.1
  | 0, h => by
    refine ⟨?_, fun j hj => ?_⟩
    · simp only [Lib.pickBy]
      rw [getElem!_pos d 0 h]
      exact Array.getElem_mem h
    · obtain rfl : j = 0 := by omega
      exact Int.le_refl _
  | i + 1, h => by
    obtain ⟨h1, h2⟩ := pick_spec ut d i (by omega)
    simp only [Lib.pickBy]
    by_cases hc : cfU ut N d[i + 1]! (Lib.pickBy (fun x m => decide (cfU ut N x m < 0)) d i) < 0
    · rw [if_pos (by simpa using hc)]
      have hle := cfU_le.1 hc
      refine ⟨?_, fun j hj => ?_⟩
      · rw [getElem!_pos d (i + 1) h]
        exact Array.getElem_mem h
      · rcases Nat.lt_or_ge i j with hij | hij
        · obtain rfl : j = i + 1 := by omega
          exact Int.le_refl _
        · have := h2 j hij
          omega
    · rw [if_neg (by simpa using hc)]
      have hle := cfU_le.2 hc
      refine ⟨h1, fun j hj => ?_⟩
      rcases Nat.lt_or_ge i j with hij | hij
      · obtain rfl : j = i + 1 := by omega
        exact hle
      · exact h2 j hij

/-- MinFunc of a row of ids of the call's own. -/
theorem minf_row {W : World} {base X B G N c : Nat} {v : Value} {q : List Nat} {ut : Nat → Int} (h : RowI W base v (ints q)) (hN : 1 ≤ N) (hq : ∀ t ∈ q, t < N) (hl : q.length ≤ 4096) (h0 : 0 < q.length)
    (hx : W.cell? ⟨X, 0, none⟩ = some (.pointer (some ⟨B, 0, none⟩))) (h1 : W.cell? ⟨B, 1, none⟩ = some (.slice (some ⟨G, 0, none⟩) N c)) (hg : ∀ t, t < N → W.cell? ⟨G, t, none⟩ = some (.int .i64 (ut t)))
    (nX : v.ownBlock ≠ some X) (nB : v.ownBlock ≠ some B) (nG : v.ownBlock ≠ some G) :
    Calls Try.prog 35 #[v, .func (.func 53) #[] #[.pointer (some ⟨X, 0, none⟩)]] W fun e w' => ∃ t, e = .returned (.int .i64 ((t : Nat) : Int)) ∧ t ∈ q ∧ (∀ z ∈ q, ut t ≤ ut z) ∧ W.grownBy w' v.ownBlock := by
  rcases h.2 with ⟨rfl, h0'⟩ | ⟨g, cap, cur, rfl, hgb, hblk, hc, hm, hs, ht⟩
  · rw [ints_len] at h0'
    omega
  · have hlt := (Array.getElem?_eq_some_iff.1 hblk).1
    have nX' : X ≠ g := fun e => nX (by rw [e]; rfl)
    have nB' : B ≠ g := fun e => nB (by rw [e]; rfl)
    have nG' : G ≠ g := fun e => nG (by rw [e]; rfl)
    haveI : Inhabited (Fin N) := ⟨⟨0, by omega⟩⟩
    have hd : ((finL N q hq).toArray.map (fun x => ((x.1 : Nat) : Int))) = (ints q).toArray := by
      rw [List.map_toArray]
      congr 1
      have e : (finL N q hq).map (fun x => ((x.1 : Nat) : Int)) = ((finL N q hq).map (fun x => x.1)).map (fun x : Nat => (x : Int)) := by rw [List.map_map]; rfl
      rw [e, finL_val]
      rfl
    have hH : Holds (encF N) W g 0 (finL N q hq).toArray := by
      have h0 := holds_of_blockI (ss := ints q) hblk (by simpa using ht)
      intro j hj
      have hj' : j < (ints q).toArray.size := by rw [← hd, Array.size_map]; exact hj
      obtain ⟨a1, a2⟩ := h0 j hj'
      refine ⟨?_, a2⟩
      rw [a1, getElem!_pos _ j hj', getElem!_pos _ j hj]
      congr 1
      have : (ints q).toArray[j] = ((finL N q hq).toArray.map (fun x => ((x.1 : Nat) : Int)))[j]'(by rw [Array.size_map]; exact hj) := by congr 1; exact hd.symm
      rw [this]
      simp [encF]
    have hcmp : CmpLays1 Try.prog 53 #[.pointer (some ⟨X, 0, none⟩)] (encF N) (cfU ut N) g 0 (finL N q hq).toArray.size W := by
      intro m os dk hdk x y
      unfold sortWorld
      rw [putRow_enc]
      exact order_at x.2 y.2 (cell_sort hx nX') (cell_sort h1 nB') (cell_sort (hg x.1 x.2) nG') (cell_sort (hg y.1 y.2) nG')
    have eg : ∀ args w, (callFunc 53 args).run Try.prog w = .ok (.enter 53 args) w := enters_of Try.func53 (by kernel_rfl) rfl
    have hsz : (finL N q hq).toArray.size = q.length := by simp [finL_len]
    have hS : Calls Try.prog 35 _ _ _ := Any.slices_MinFunc Try.minL (encF N) (fun _ => rfl) (cfU ut N) 53 #[.pointer (some ⟨X, 0, none⟩)] g 0 cap (finL N q hq).toArray W eg hcmp hH hlt (by rw [hsz]; omega) (by rw [hsz]; omega)
    obtain ⟨p1, p2⟩ := pick_spec ut (finL N q hq).toArray ((finL N q hq).toArray.size - 1) (by rw [hsz]; omega)
    rw [hsz] at hS p1 p2
    rw [ints_len]
    refine hS.mono ?_
    rintro e w' ⟨rfl, n, os, rfl⟩
    refine ⟨_, rfl, ?_, fun z hz => ?_, ?_⟩
    · have hm1 := List.mem_map_of_mem (f := fun x : Fin N => x.1) (by simpa using p1 : _ ∈ finL N q hq)
      rwa [finL_val] at hm1
    · have hz' : z ∈ (finL N q hq).map (fun x => x.1) := by rw [finL_val]; exact hz
      obtain ⟨y, hy, rfl⟩ := List.mem_map.1 hz'
      obtain ⟨j, hj, e⟩ := List.mem_iff_getElem.1 hy
      have := p2 j (by rw [finL_len] at hj; omega)
      rw [getElem!_pos _ j (by simpa using hj)] at this
      simp only [List.getElem_toArray] at this
      rw [e] at this
      exact this
    · unfold sortWorld
      rw [putRow_enc]
      exact grownBy_sortedI _

/-- A time in parts. -/
theorem digs (n : Nat) : ∃ a3 a2 a1 a0, a2 < 16 ∧ a1 < 16 ∧ a0 < 16 ∧ n = 4096 * a3 + 256 * a2 + 16 * a1 + a0 ∧ n / 4096 = a3 ∧ n / 256 % 16 = a2 ∧ n / 16 % 16 = a1 ∧ n % 16 = a0 ∧ n / 256 = 16 * a3 + a2 ∧ n / 16 = 256 * a3 + 16 * a2 + a1 :=
  ⟨n / 4096, n / 256 % 16, n / 16 % 16, n % 16, by omega, by omega, by omega, by omega, rfl, rfl, rfl, rfl, by omega, by omega⟩
theorem md {a b r : Nat} (ha : a < 16) (hr : r < 16) (h : (a + 1 + r) % 16 = b) (hab : a < b) : b = a + 1 + r := by omega
theorem md3 {a b r : Nat} (hr : r < 16) (h : (a + 1 + r) % 16 = b % 16) (hab : a < b) (hb : b ≤ a + 16) : b = a + 1 + r := by omega
/-- Where a list in turn stands, and until when its ids wait. -/
theorem tq_row {n m u : Nat} (hm : m < 64) (h : tq n m = rowN n u) (h1 : n < u) (h2 : u ≤ n + 65535) : (m / 16 = 3 ∧ u / 4096 = n / 4096 + 1 + m % 16) ∨ (m / 16 = 2 ∧ u / 4096 = n / 4096 ∧ u / 256 = n / 256 + 1 + m % 16) ∨ (m / 16 = 1 ∧ u / 256 = n / 256 ∧ u / 16 = n / 16 + 1 + m % 16) ∨ (m / 16 = 0 ∧ u / 16 = n / 16 ∧ u = n + 1 + m % 16) := by
  unfold tq at h
  obtain ⟨l, hl⟩ : ∃ l, m / 16 = l := ⟨_, rfl⟩
  obtain ⟨r, hr⟩ : ∃ r, m % 16 = r := ⟨_, rfl⟩
  rw [hl, hr] at h ⊢
  have hl4 : l < 4 := by omega
  have hr16 : r < 16 := by omega
  clear hl hr hm
  have hc := rowN_cases n u
  obtain ⟨x, hx⟩ : ∃ x, rowN n u = x := ⟨_, rfl⟩
  rw [hx] at h hc
  clear hx
  have hp : prt l n = if l = 0 then n % 16 else if l = 1 then n / 16 % 16 else if l = 2 then n / 256 % 16 else n / 4096 := by
    match l, hl4 with
    | 0, _ => rfl
    | 1, _ => rfl
    | 2, _ => rfl
    | 3, _ => rfl
  rw [hp] at h
  clear hp
  obtain ⟨a3, a2, a1, a0, i2, i1, i0, en, e3, e2, e1, e0, f2, f1⟩ := digs n
  obtain ⟨b3, b2, b1, b0, j2, j1, j0, eu, g3, g2, g1, g0, k2, k1⟩ := digs u
  rw [e3, e2, e1, g3, g2, g1, g0] at hc
  rw [e3, e2, e1, e0] at h
  rw [e3, g3, f2, f1, k2, k1, en, eu]
  rw [en, eu] at h1 h2
  clear en eu e3 e2 e1 e0 f2 f1 g3 g2 g1 g0 k2 k1 n u
  obtain ⟨y, hy⟩ : ∃ y, (if l = 0 then a0 else if l = 1 then a1 else if l = 2 then a2 else a3) = y := ⟨_, rfl⟩
  rw [hy] at h
  obtain ⟨z, hz⟩ : ∃ z, (y + 1 + r) % 16 = z := ⟨_, rfl⟩
  have hz16 : z < 16 := by omega
  rw [hz] at h
  rcases hc with ⟨e, k⟩ | ⟨e, k⟩ | ⟨e, k⟩ | ⟨e, k⟩
  · obtain ⟨o, ho⟩ : ∃ o, b3 % 16 = o := ⟨_, rfl⟩
    rw [ho] at e
    have ho16 : o < 16 := by omega
    have hl3 : l = 3 := by omega
    subst hl3
    have hyy : a3 = y := by simpa using hy
    subst hyy
    have hzo : z = o := by omega
    have h3 : a3 < b3 := by omega
    have h4 : b3 ≤ a3 + 16 := by omega
    have := md3 hr16 (by rw [hz, ho, hzo]) h3 h4
    exact .inl ⟨rfl, this⟩
  · have hl3 : l = 2 := by omega
    subst hl3
    have hyy : a2 = y := by simpa using hy
    subst hyy
    have hzo : z = b2 := by omega
    have h3 : a2 < b2 := by omega
    have := md i2 hr16 (by rw [hz, hzo]) h3
    exact .inr (.inl ⟨rfl, k.1.symm, by omega⟩)
  · have hl3 : l = 1 := by omega
    subst hl3
    have hyy : a1 = y := by simpa using hy
    subst hyy
    have hzo : z = b1 := by omega
    have h3 : a1 < b1 := by omega
    have := md i1 hr16 (by rw [hz, hzo]) h3
    exact .inr (.inr (.inl ⟨rfl, by omega, by omega⟩))
  · have hl3 : l = 0 := by omega
    subst hl3
    have hyy : a0 = y := by simpa using hy
    subst hyy
    have hzo : z = b0 := by omega
    have h3 : a0 < b0 := by omega
    have := md i0 hr16 (by rw [hz, hzo]) h3
    exact .inr (.inr (.inr ⟨rfl, by omega, by omega⟩))
theorem dv (k : Nat) {u v : Nat} (h : u / k < v / k) : u < v := Nat.lt_of_div_lt_div h
theorem tq_mono {n m m' u u' : Nat} (hm : m < m') (hm' : m' < 64) (h : tq n m = rowN n u) (h' : tq n m' = rowN n u') (h1 : n < u) (h2 : u ≤ n + 65535) (h3 : n < u') (h4 : u' ≤ n + 65535) : u < u' := by
  have a := tq_row (by omega) h h1 h2
  have b := tq_row hm' h' h3 h4
  clear h h' h1 h2 h3 h4
  have hd : m / 16 < m' / 16 ∨ (m / 16 = m' / 16 ∧ m % 16 < m' % 16) := by omega
  have x1 : u / 256 = n / 256 → u / 4096 = n / 4096 := by omega
  have x2 : u / 16 = n / 16 → u / 256 = n / 256 := by omega
  clear hm hm'
  generalize m / 16 = l at *
  generalize m' / 16 = l' at *
  generalize m % 16 = r at *
  generalize m' % 16 = r' at *
  rcases b with ⟨b1, b2⟩ | ⟨b1, b2, b3⟩ | ⟨b1, b2, b3⟩ | ⟨b1, b2, b3⟩
  · refine dv 4096 ?_
    rcases a with ⟨a1, a2⟩ | ⟨a1, a2, a3⟩ | ⟨a1, a2, a3⟩ | ⟨a1, a2, a3⟩
    · rw [a2, b2]; omega
    · rw [a2, b2]; omega
    · rw [x1 a2, b2]; omega
    · rw [x1 (x2 a2), b2]; omega
  · refine dv 256 ?_
    rcases a with ⟨a1, a2⟩ | ⟨a1, a2, a3⟩ | ⟨a1, a2, a3⟩ | ⟨a1, a2, a3⟩
    · exfalso; clear x1 x2 a2 b2 b3; omega
    · rw [a3, b3]; omega
    · rw [a2, b3]; omega
    · rw [x2 a2, b3]; omega
  · refine dv 16 ?_
    rcases a with ⟨a1, a2⟩ | ⟨a1, a2, a3⟩ | ⟨a1, a2, a3⟩ | ⟨a1, a2, a3⟩
    · exfalso; clear x1 x2 a2 b2 b3; omega
    · exfalso; clear x1 x2 a2 b2 b3; omega
    · rw [a3, b3]; omega
    · rw [a2, b3]; omega
  · rcases a with ⟨a1, a2⟩ | ⟨a1, a2, a3⟩ | ⟨a1, a2, a3⟩ | ⟨a1, a2, a3⟩
    · exfalso; clear x1 x2 a2 b2 b3; omega
    · exfalso; clear x1 x2 a2 b2 b3; omega
    · exfalso; clear x1 x2 a2 b2 b3; omega
    · clear x1 x2 a2 b2; omega

section
variable {w : World} {T : Wp} {N n : Nat} {wh : List Nat} {us : List Int} {ls : List (List Nat)}
theorem next_none (hm : WM w T N n us ls) (hp : WP N n wh us ls (fun u i => i = rowN n u) []) (h : catL ls (turnL n) = []) : nextN wh = 0 := by
  have hc := cat_perm hm hp
  rw [h] at hc
  have hw := List.nil_perm.1 hc
  rcases Nat.eq_zero_or_pos (nextN wh) with h0 | h0
  · exact h0
  · obtain ⟨⟨t, ht⟩, _⟩ := next_some (wh := wh) (by omega)
    have : t ∈ waitL wh := mem_waitL.2 (by omega)
    rw [hw] at this
    cases this
theorem next_first (hm : WM w T N n us ls) (hp : WP N n wh us ls (fun u i => i = rowN n u) []) (hf : ∀ t, wt wh t ≠ 0 → n < wt wh t) {pre : List Nat} {x t : Nat} (hpre : (pre ++ [x]) <+: turnL n) (h0 : catL ls pre = []) (ht : t ∈ ls.getD x []) (hmin : ∀ z ∈ ls.getD x [], us.getD t 0 ≤ us.getD z 0) : us.getD t 0 = (nextN wh : Nat) ∧ nextN wh ≠ 0 := by
  have hlen := hpre.length_le
  rw [turnL_len, List.length_append, List.length_singleton] at hlen
  have hx : x = tq n pre.length := by
    have h := hpre.getElem (i := pre.length) (by simp)
    have e := turnL_get (n := n) (m := pre.length) (by omega)
    rw [List.getElem?_eq_getElem (by rw [turnL_len]; omega), Option.some.injEq] at e
    rw [← e, ← h]
    simp
  have hx64 : x < 64 := by rw [hx]; exact tq_lt (by omega)
  have hU : ∀ z, wt wh z ≠ 0 → us.getD z 0 = (wt wh z : Nat) := fun z hz => by
    have hzN : z < N := by
      rcases Nat.lt_or_ge z N with h | h
      · exact h
      · exact absurd (wt_out (by rw [hp.len]; exact h)) hz
    rw [List.getD_eq_getElem?_getD, hp.us z hzN hz]
    rfl
  have hxq : ls[x]? = some (ls.getD x []) := getD_at (by rw [hm.l.ok.len]; exact hx64)
  obtain ⟨_, k1, k2⟩ := hp.inn x _ hxq t ht
  have hn : nextN wh = wt wh t := by
    refine next_is k1 ⟨t, rfl⟩ (fun s hs => ?_)
    obtain ⟨i, q, hi, hsq⟩ := hp.out s hs (by simp)
    obtain ⟨_, _, k3⟩ := hp.inn i q hi s hsq
    have hi64 : i < 64 := by
      have := (List.getElem?_eq_some_iff.1 hi).1
      rw [hm.l.ok.len] at this
      exact this
    obtain ⟨m', hm', e'⟩ := tq_sur (n := n) hi64
    rcases Nat.lt_trichotomy m' pre.length with hlt | heq | hgt
    · exfalso
      have hmem : i ∈ pre := by
        have h := hpre.getElem (i := m') (by simp; omega)
        have e := turnL_get (n := n) (m := m') hm'
        rw [List.getElem?_eq_getElem (by rw [turnL_len]; exact hm'), Option.some.injEq] at e
        rw [List.getElem_append_left hlt] at h
        rw [← e', ← e, ← h]
        exact List.getElem_mem hlt
      have : s ∈ catL ls pre := mem_catL.2 ⟨i, hmem, by rw [List.getD_eq_getElem?_getD, hi]; exact hsq⟩
      rw [h0] at this
      cases this
    · have : i = x := by rw [hx, ← heq, e']
      subst this
      have hq : ls.getD i [] = q := by rw [List.getD_eq_getElem?_getD, hi]; rfl
      have := hmin s (by rw [hq]; exact hsq)
      rw [hU t k1, hU s hs] at this
      omega
    · exact Nat.le_of_lt (tq_mono hgt hm' (by rw [← hx]; exact k2) (by rw [e']; exact k3) (hf t k1) (hp.near t k1) (hf s hs) (hp.near s hs))
  exact ⟨by rw [hn]; exact hU t k1, by rw [hn]; exact k1⟩
end
end Go.Proofs.Ytmjjghhlalaeiaa
