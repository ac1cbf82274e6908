/- Make, New, Get. -/
/- The document's Make. -/
import Derived.Test.YtjgclehghnmhnaaDoorLfK
import Derived.Test.YtjgclehghnmhnaaDoorLfC
import Derived.Test.YtjgclehghnmhnaaDoorJ03LCores
namespace Go.Proofs.YtjgclehghnmhnaaDoor
open Go Go.RowKit

section
variable {w : World} {B N : Nat} {T : List Nat} {σ : Sta}
theorem acA_new (i sp : Int) : acA (newA i sp) = #[.int .i64 i, .int .i64 1, .int .i64 sp, .int .i64 (-1), .int .i64 0, .int .i64 0, .int .i64 0, .int .i64 0, .int .i64 0, .int .i64 0, .int .i64 0, .int .i64 0, .int .i64 0, .int .i64 0, .int .i64 0, .int .i64 0] := rfl
theorem mk_out {σ : Sta} {sp : Int} (h : sp < 1 ∨ 16 < sp) : mkI σ sp = 0 ∧ mkE σ sp = 2 ∧ mkS σ sp = σ := by
  unfold mkI mkE mkS
  exact ⟨if_pos h, if_pos h, if_pos h⟩
theorem mk_old {σ : Sta} {sp : Int} {a : Ac} (h : ¬ (sp < 1 ∨ 16 < sp)) (hc : cacO σ.xs sp = some a) : mkI σ sp = a.id ∧ mkE σ sp = 0 ∧ mkS σ sp = { σ with xs := insA { a with st := 1 } σ.xs } := by
  unfold mkI mkE mkS
  rw [if_neg h, if_neg h, if_neg h, hc]
  exact ⟨rfl, rfl, rfl⟩
theorem mk_new {σ : Sta} {sp : Int} {j : Nat} (h : ¬ (sp < 1 ∨ 16 < sp)) (hc : cacO σ.xs sp = none) (ho : leastO σ.ag σ.tk = some j) : mkI σ sp = takeI σ.ag σ.tk ∧ mkE σ sp = takeE σ.ag σ.tk ∧ mkS σ sp = ⟨takeA σ.ag σ.tk, takeT σ.ag σ.tk, insA (newA (takeI σ.ag σ.tk) sp) σ.xs⟩ := by
  unfold mkI mkE mkS
  rw [if_neg h, if_neg h, if_neg h, hc]
  dsimp only
  rw [ho]
  exact ⟨rfl, rfl, rfl⟩
theorem mk_full {σ : Sta} {sp : Int} (h : ¬ (sp < 1 ∨ 16 < sp)) (hc : cacO σ.xs sp = none) (ho : leastO σ.ag σ.tk = none) : mkI σ sp = 0 ∧ mkE σ sp = 3 ∧ mkS σ sp = σ := by
  obtain ⟨e1, e2, _⟩ := take_none ho
  unfold mkI mkE mkS
  rw [if_neg h, if_neg h, if_neg h, hc]
  dsimp only
  rw [ho]
  exact ⟨e2, e1, rfl⟩

set_option maxHeartbeats 2000000 in
set_option maxRecDepth 100000 in
theorem make_any (h : TQ w B T N σ) (hV : Env w) (sp : Int) :
    Calls Tryd.prog 19 #[.pointer (some ⟨B, 0, none⟩), .int .i64 sp] w fun e w' => e = .returned (.tuple #[.int .i64 (mkI σ sp), .int .i64 (mkE σ sp)]) ∧ ∃ T', TQ w' B T' N (mkS σ sp) ∧ Step T w T' w' := by
  obtain ⟨S, G, M, pb, rfl, hm⟩ := h
  have hM := tmade hm
  by_cases hs : sp < 1 ∨ 16 < sp
  · obtain ⟨e1, e2, e3⟩ := mk_out (σ := σ) hs
    rw [e1, e2, e3]
    clear e1 e2 e3
    by_cases h1 : sp < 1
    · clear hs
      go_enter Tryd.func19, Tryd.ntmps19
      go_wp2_with (go_at_call 40; refine hM.mono ?_; rintro e w' ⟨rfl, hw⟩; subst w')
      go_ret2
      exact ⟨rfl, _, ⟨S, G, M, pb, rfl, hm⟩, Step.refl _ _⟩
    · have h2 : 16 < sp := by omega
      clear hs
      go_enter Tryd.func19, Tryd.ntmps19
      go_wp2_with (go_at_call 40; refine hM.mono ?_; rintro e w' ⟨rfl, hw⟩; subst w')
      go_ret2
      exact ⟨rfl, _, ⟨S, G, M, pb, rfl, hm⟩, Step.refl _ _⟩
  · have h1 : ¬ sp < 1 := by omega
    have h2 : ¬ 16 < sp := by omega
    have hC := cached_any hm hV sp
    cases hc : cacO σ.xs sp with
    | some a =>
      obtain ⟨e1, e2, e3⟩ := mk_old hs hc
      have hok := hm.ok.make sp
      rw [e3] at hok
      rw [e1, e2, e3]
      obtain ⟨ha, _, hst⟩ := cac_some hc
      rw [hc] at hC
      simp only [Option.map_some, ptr] at hC
      have HK : Hid (∀ W, Below w.heap.size w W → W.cell? ⟨pb a.id, 1, none⟩ = some (.int .i64 a.st) ∧ W.frozen? ⟨pb a.id, 1, none⟩ = false ∧ (W.setCell ⟨pb a.id, 1, none⟩ (.int .i64 1)).cell? ⟨pb a.id, 0, none⟩ = some (.int .i64 a.id) ∧ TM (W.setCell ⟨pb a.id, 1, none⟩ (.int .i64 1)) B S G M N pb { σ with xs := insA { a with st := 1 } σ.xs } ∧ bT B S G M pb ({ σ with xs := insA { a with st := 1 } σ.xs } : Sta).xs = bT B S G M pb σ.xs ∧ But (bT B S G M pb σ.xs) w (W.setCell ⟨pb a.id, 1, none⟩ (.int .i64 1))) := fun W hB => by
        have hmW := hm.below hB
        have hcW := hmW.a a ha
        have hc1 : Cel (W.setCell ⟨pb a.id, 1, none⟩ (.int .i64 1)) (pb a.id) (acA { a with st := 1 }) 44 := hcW.set (j := 1) _
        have hb1 : But [pb a.id] W (W.setCell ⟨pb a.id, 1, none⟩ (.int .i64 1)) := (But.refl _ W).set (p := ⟨pb a.id, 1, none⟩) (by simp) _
        obtain ⟨k1, k2⟩ := hmW.upd (a' := { a with st := 1 }) ha rfl hb1 hc1 hok
        exact ⟨hcW.cell (j := 1) rfl, hcW.fz 1, hc1.cell (j := 0) rfl, k1, k2, (But.of_below hB).trans (hb1.mono (fun x hx => by rw [List.mem_singleton.1 hx]; exact bT_mem ha))⟩
      clear hok hs hc e1 e2 e3 ha
      generalize ({ σ with xs := insA { a with st := 1 } σ.xs } : Sta) = σ1 at *
      go_enter Tryd.func19, Tryd.ntmps19
      go_wp2_with (first
        | (go_at_call 40; refine hM.mono ?_; rintro e w' ⟨rfl, hw⟩; subst w')
        | (go_at_call 43; refine hC.mono ?_; rintro e w1 ⟨rfl, hB1⟩; obtain ⟨x1, x2, x3, x4, x5, x6⟩ := HK.out w1 hB1; replace x5 := Hid.mk x5))
      go_ret2
      exact ⟨rfl, bT B S G M pb σ.xs, ⟨S, G, M, pb, x5.out.symm, x4⟩, x6, fun x hx => .inl hx⟩
    | none =>
      rw [hc] at hC
      simp only [Option.map_none, ptr] at hC
      cases ho : leastO σ.ag σ.tk with
      | none =>
        obtain ⟨e1, e2, e3⟩ := mk_full hs hc ho
        obtain ⟨t1, t2, t3, t4⟩ := take_none ho
        rw [e1, e2, e3]
        have HT : ∀ W, Below w.heap.size w W → Calls Tryd.prog 44 #[.pointer (some ⟨S, 0, none⟩)] W fun e w' => e = .returned (.tuple #[.int .i64 0, .int .i64 3]) ∧ SlQ w' S G N σ.ag σ.tk ∧ But [S, G] W w' := fun W hB => by
          have := take_any (hm.below hB).s (hV.on hB).t
          rw [t1, t2, t3, t4] at this
          exact this
        have HC : ∀ W, Below w.heap.size w W → W.cell? ⟨B, 0, none⟩ = some (.pointer (some ⟨S, 0, none⟩)) := fun W hB => (hm.below hB).c0
        have HS : Hid (∀ W W', Below w.heap.size w W → SlQ W' S G N σ.ag σ.tk → But [S, G] W W' → TM W' B S G M N pb σ) := fun W W' hB hs hb => by
          have hW := hm.below hB
          obtain ⟨a1, a2, a3, a4, a5, a6, hap, hnd⟩ := hW.apart
          exact ⟨(hb.block B (hW.lt (by simp [bT])) (by simp; exact ⟨a1, a2⟩)).trans hW.b, hs, hW.m.but hb (by simp; exact ⟨Ne.symm a5, Ne.symm a6⟩), fun a ha => (hW.a a ha).but hb (by obtain ⟨n1, n2, n3, n4⟩ := hap a ha; simp; exact ⟨n2, n3⟩), hW.nd, hW.ok⟩
        clear e1 e2 e3 t1 t2 t3 t4 ho hc hs
        go_enter Tryd.func19, Tryd.ntmps19
        go_wp2_with (first
          | (go_at_call 40; refine hM.mono ?_; rintro e w' ⟨rfl, hw⟩; subst w')
          | (go_at_call 43; refine hC.mono ?_; rintro e w1 ⟨rfl, hB1⟩; have x1 := HC w1 hB1)
          | (go_at_call 44; refine (HT w1 hB1).mono ?_; rintro e w2 ⟨rfl, hs2, hb2⟩))
        go_ret2
        exact ⟨rfl, _, ⟨S, G, M, pb, rfl, HS.out _ _ hB1 hs2 hb2⟩, (But.of_below hB1).trans (hb2.mono (fun x hx => by simp [bT] at hx ⊢; rcases hx with rfl | rfl <;> simp)), fun x hx => .inl hx⟩
      | some j =>
        obtain ⟨e1, e2, e3⟩ := mk_new hs hc ho
        obtain ⟨t0, tv, tr, tok⟩ := hm.ok.take ho
        rw [e1, e2, e3]
        have HT : ∀ W, Below w.heap.size w W → Calls Tryd.prog 44 #[.pointer (some ⟨S, 0, none⟩)] W fun e w' => e = .returned (.tuple #[.int .i64 (takeI σ.ag σ.tk), .int .i64 0]) ∧ SlQ w' S G N (takeA σ.ag σ.tk) (takeT σ.ag σ.tk) ∧ But [S, G] W w' := fun W hB => by
          have := take_any (hm.below hB).s (hV.on hB).t
          rw [t0] at this
          exact this
        rw [t0]
        have tok := tok sp
        have hnew : ∀ b ∈ σ.xs, b.id ≠ takeI σ.ag σ.tk := fun b hb e => by
          have := (hm.ok.live b.id).2 ⟨b, hb, rfl⟩
          rw [e, tv] at this
          cases this
        have hi : In64 (takeI σ.ag σ.tk) := ⟨by omega, by omega⟩
        generalize takeI σ.ag σ.tk = id at *
        generalize takeA σ.ag σ.tk = ag1 at *
        generalize takeT σ.ag σ.tk = tk1 at *
        have hf : fB pb σ.xs id = none := by unfold fB; rw [fnd_not hnew]; rfl
        have hlen : σ.xs.length < maxLen := by
          have := hm.ok.len
          have := hm.ok.n4
          unfold maxLen
          omega
        have HC : ∀ W, Below w.heap.size w W → W.cell? ⟨B, 0, none⟩ = some (.pointer (some ⟨S, 0, none⟩)) := fun W hB => (hm.below hB).c0
        have HK : ∀ W W', Below w.heap.size w W → But [S, G] W W' → W'.cell? ⟨B, 1, none⟩ = some (.map (some M)) ∧ PM (W'.alloc (.cells (acA (newA id sp)) 44)) M σ.xs.length (fB pb σ.xs) := fun W W' hB hb => by
          have hW := hm.below hB
          obtain ⟨a1, a2, a3, a4, a5, a6, hap, hnd⟩ := hW.apart
          exact ⟨hb.cell' hW.c1 (by simp; exact ⟨a1, a2⟩), (hW.m.but hb (by simp; exact ⟨Ne.symm a5, Ne.symm a6⟩)).but ((But.refl [] W').alloc _) (by simp)⟩
        have HN : Hid (∀ W w1 w3, Below w.heap.size w W → SlQ w1 S G N ag1 tk1 → But [S, G] W w1 → PM w3 M (σ.xs.length + 1) (fun j => if j = id then some w1.heap.size else fB pb σ.xs j) → But [M] (w1.alloc (.cells (acA (newA id sp)) 44)) w3 → ∃ T', TQ w3 B T' N ⟨ag1, tk1, insA (newA id sp) σ.xs⟩ ∧ Step (bT B S G M pb σ.xs) w T' w3) := fun W w1 w3 hB k1 k2 k3 k4 => by
          obtain ⟨pb', q1, q2⟩ := (hm.below hB).new (n := newA id sp) k1 k2 hnew k3 k4 tok
          exact ⟨_, ⟨S, G, M, pb', rfl, q1⟩, (Step.keep (.of_below hB)).trans q2⟩
        clear e1 e2 e3 t0 tv tr tok ho hc hs hnew
        rw [acA_new] at HK HN
        go_enter Tryd.func19, Tryd.ntmps19
        go_wp2_with (first
          | (go_at_call 40; refine hM.mono ?_; rintro e w' ⟨rfl, hw⟩; subst w')
          | (go_at_call 43; refine hC.mono ?_; rintro e w1 ⟨rfl, hB1⟩; have x1 := HC w1 hB1)
          | (go_at_call 44; refine (HT w1 hB1).mono ?_; rintro e w2 ⟨rfl, hs2, hb2⟩; obtain ⟨x2, x3⟩ := HK w1 w2 hB1 hb2)
          | (at_mapUpdate; refine wpList_storeP _ rfl _ _ _ rfl M _ _ rfl x3 id w2.heap.size rfl rfl hi hf hlen ?_; intro w3 hm3 hb3)
          | go_in)
        go_ret2
        exact ⟨rfl, HN.out _ _ _ hB1 hs2 hb2 hm3 hb3⟩

theorem tnew_none (m : Int) (hm : m < 1 ∨ 4096 < m) (w : World) : Calls Tryd.prog 9 #[.int .i64 m] w fun e w' => e = .returned (.pointer none) ∧ w' = w := by
  have hN := new_none m hm w
  go_enter Tryd.func9, Tryd.ntmps9
  go_wp2_with (go_at_call 29; refine hN.mono ?_; rintro e w' ⟨rfl, hw⟩; subst w')
  go_ret
  exact ⟨rfl, rfl⟩
set_option maxHeartbeats 1000000 in
theorem tnew_some (n : Nat) (h1 : 1 ≤ n) (h2 : n ≤ 4096) (w : World) :
    Calls Tryd.prog 9 #[.int .i64 n] w fun e w' => ∃ B T, e = .returned (.pointer (some ⟨B, 0, none⟩)) ∧ TQ w' B T n ⟨List.replicate n 0, List.replicate n false, []⟩ ∧ Step [] w T w' := by
  have hN := new_some n h1 h2 w
  have hmm := @run_makeMap Tryd.prog
  have HF : Hid (∀ w1, SlQ w1 (w.heap.size + 1) w.heap.size n (List.replicate n 0) (List.replicate n false) → Below w.heap.size w w1 → ∃ T, TQ ((w1.alloc (.map #[] 0)).alloc (.cells #[.pointer (some ⟨w.heap.size + 1, 0, none⟩), .map (some w1.heap.size)] 67)) (w1.heap.size + 1) T n ⟨List.replicate n 0, List.replicate n false, []⟩ ∧ Step [] w T ((w1.alloc (.map #[] 0)).alloc (.cells #[.pointer (some ⟨w.heap.size + 1, 0, none⟩), .map (some w1.heap.size)] 67))) := fun w1 hs hB => by
    obtain ⟨l1, l2, _⟩ := hs.lts
    have hl := hB.size
    have b1 : But [] w1 (w1.alloc (.map #[] 0)) := (But.refl [] w1).alloc _
    have b2 : But [] w1 ((w1.alloc (.map #[] 0)).alloc (.cells #[.pointer (some ⟨w.heap.size + 1, 0, none⟩), .map (some w1.heap.size)] 67)) := b1.alloc _
    refine ⟨_, ⟨w.heap.size + 1, w.heap.size, w1.heap.size, fun _ => 0, rfl, ⟨?_, hs.keep b2, ?_, fun a ha => by simp at ha, ?_, okk_new h2⟩⟩, (But.of_below hB).trans b2, fun x hx => .inr ?_⟩
    · have := heap_alloc_new (w1.alloc (.map #[] 0)) (.cells #[.pointer (some ⟨w.heap.size + 1, 0, none⟩), .map (some w1.heap.size)] 67)
      rw [World.size_alloc] at this
      exact this
    · exact (PM.made w1).but ((But.refl [] _).alloc _) (by simp)
    · simp [bT]
      omega
    · simp [bT] at hx
      omega
  have hn1 : Hid (1 ≤ n) := h1
  clear h1 h2
  go_enter Tryd.func9, Tryd.ntmps9
  go_wp2_with (go_at_call 29; refine hN.mono ?_; rintro e w1 ⟨rfl, hs1, -, hB1⟩)
  go_ret
  obtain ⟨T, q1, q2⟩ := HF.out w1 hs1 hB1
  exact ⟨_, T, rfl, q1, q2⟩
end
end Go.Proofs.YtjgclehghnmhnaaDoor
namespace Go.Proofs.YtjgclehghnmhnaaDoor
open Go Go.RowKit

theorem find_at {p : Ac → Bool} : ∀ {xs : List Ac} {j : Nat}, j < xs.length → (∀ k, k < j → p (ac xs k) = false) → p (ac xs j) = true → xs.find? p = some (ac xs j)
  | x :: r, 0, _, _, h => by
    have h' : p x = true := h
    rw [List.find?_cons, h']
    rfl
  | x :: r, j + 1, hj, ha, h => by
    have h0 : p x = false := ha 0 (by omega)
    rw [List.find?_cons, h0]
    have e : ac (x :: r) (j + 1) = ac r j := by simp [ac]
    rw [e] at h ⊢
    exact find_at (by simpa using hj) (fun k hk => by
      have := ha (k + 1) (by omega)
      simpa [ac] using this) h
theorem find_no {p : Ac → Bool} {xs : List Ac} (ha : ∀ k, k < xs.length → p (ac xs k) = false) : xs.find? p = none := by
  rw [List.find?_eq_none]
  intro x hx
  obtain ⟨k, hk, rfl⟩ := List.mem_iff_getElem.1 hx
  have h1 := ha k hk
  rw [ac_of (List.getElem?_eq_getElem hk)] at h1
  simp [h1]
section
variable {w : World} {M N : Nat} {R : List Nat} {σ : Sta}
set_option maxHeartbeats 4000000 in
set_option maxRecDepth 100000 in
theorem rmake_any (h : RQ w M R N σ) (hok : Okk N σ) (q : Int) :
    Calls Tryd.prog 32 #[.pointer (some ⟨M, 0, none⟩), .int .i64 q] w fun e w' => e = .returned (.tuple #[.int .i64 (mkI σ q), .int .i64 (mkE σ q)]) ∧ ∃ R', RQ w' M R' N (mkS σ q) ∧ Step R w R' w' := by
  have hl4 := h.facts.1
  have hlm : (mkS σ q).xs.length ≤ 4096 := Nat.le_trans (hok.make q).len hok.n4
  have HK := fun W b => RQ.back h (W := W) b
  obtain ⟨z, hz⟩ : ∃ z, Hid (mkI σ q = z) := ⟨_, rfl⟩
  obtain ⟨pe, hpe⟩ : ∃ pe, Hid (mkE σ q = pe) := ⟨_, rfl⟩
  obtain ⟨τ, hτ⟩ : ∃ τ, Hid (mkS σ q = τ) := ⟨_, rfl⟩
  rw [hz.out, hpe.out, hτ.out]
  by_cases hq : q < 1 ∨ 16 < q
  · have HZ : Hid (z = 0 ∧ pe = 2 ∧ τ = σ) := by
      obtain ⟨e1, e2, e3⟩ := mk_out (σ := σ) hq
      exact ⟨hz.out.symm.trans e1, hpe.out.symm.trans e2, hτ.out.symm.trans e3⟩
    clear hz hpe hτ hlm
    by_cases hq1 : q < 1
    · clear hq
      go_enter Tryd.func32, Tryd.ntmps32
      go_wp2_with fail
      go_ret2
      exact ⟨by rw [HZ.out.1, HZ.out.2.1]; rfl, by rw [HZ.out.2.2]; exact HK _ (Below.refl _ _)⟩
    · have hq2 : 16 < q := by omega
      clear hq
      go_enter Tryd.func32, Tryd.ntmps32
      go_wp2_with fail
      go_ret2
      exact ⟨by rw [HZ.out.1, HZ.out.2.1]; rfl, by rw [HZ.out.2.2]; exact HK _ (Below.refl _ _)⟩
  · have hq1 : ¬ q < 1 := fun e => hq (.inl e)
    have hq2 : ¬ 16 < q := fun e => hq (.inr e)
    have HOLD : Hid (∀ x, x ∈ σ.xs → cacO σ.xs q = some x → z = x.id ∧ pe = 0 ∧ τ = { σ with xs := insA { x with st := 1 } σ.xs }) := fun x _ hc => by
      obtain ⟨e1, e2, e3⟩ := mk_old hq hc
      exact ⟨hz.out.symm.trans e1, hpe.out.symm.trans e2, hτ.out.symm.trans e3⟩
    have HNEW : Hid (cacO σ.xs q = none → (∃ j, leastO σ.ag σ.tk = some j ∧ z = takeI σ.ag σ.tk ∧ pe = 0 ∧ takeE σ.ag σ.tk = 0 ∧ τ = ⟨takeA σ.ag σ.tk, takeT σ.ag σ.tk, insA (newA (takeI σ.ag σ.tk) q) σ.xs⟩) ∨ (z = 0 ∧ pe = 3 ∧ takeE σ.ag σ.tk = 3 ∧ τ = σ ∧ takeA σ.ag σ.tk = σ.ag ∧ takeT σ.ag σ.tk = σ.tk)) := fun hc => by
      cases ho : leastO σ.ag σ.tk with
      | none =>
        obtain ⟨e1, e2, e3⟩ := mk_full hq hc ho
        obtain ⟨t1, t2, t3, t4⟩ := take_none ho
        exact .inr ⟨hz.out.symm.trans e1, hpe.out.symm.trans e2, t1, hτ.out.symm.trans e3, t3, t4⟩
      | some j =>
        obtain ⟨e1, e2, e3⟩ := mk_new hq hc ho
        have t : takeE σ.ag σ.tk = 0 := by unfold takeE; rw [ho]
        exact .inl ⟨j, rfl, hz.out.symm.trans e1, (hpe.out.symm.trans e2).trans t, t, hτ.out.symm.trans e3⟩
    rw [hτ.out] at hlm
    have HPU : ∀ (a a' : Ac), a ∈ σ.xs → a'.id = a.id → ∀ W, Below w.heap.size w W → Calls Tryd.prog 58 #[.pointer (some ⟨M, 0, none⟩), .agg (c16 a').toArray] W fun e w' => e = .returned (.tuple #[]) ∧ ∃ R', RQ w' M R' N { σ with xs := insA a' σ.xs } ∧ Step R W R' w' := fun a a' ha e W b => rput_any (h.below b) a' (by rw [len_upd h.facts.2 ha e]; exact hl4)
    have HRL : Hid (∀ x ∈ R, x < w.heap.size) := h.lt
    obtain ⟨S, A, K, v, rfl, hm⟩ := h
    obtain ⟨T0, hT0⟩ : ∃ T0, Hid (bR M S A K v = T0) := ⟨_, rfl⟩
    rw [hT0.out] at HK HPU HRL ⊢
    have HTK : ∀ W, Below w.heap.size w W → Calls Tryd.prog 59 #[.pointer (some ⟨S, 0, none⟩)] W fun e w' => e = .returned (.tuple #[.int .i64 (takeI σ.ag σ.tk), .int .i64 (takeE σ.ag σ.tk)]) ∧ RM w' M S A K N v { σ with ag := takeA σ.ag σ.tk, tk := takeT σ.ag σ.tk } ∧ Step T0 w T0 w' := fun W b => (rtake_any (hm.below b).s).mono (fun e w' ⟨e1, q1, q2⟩ => ⟨e1, (hm.below b).slots q1 q2, (Step.keep (.of_below b)).trans (Step.same (q2.mono (by rw [← hT0.out]; simp [bR])))⟩)
    have HM0 : ∀ W, Below w.heap.size w W → W.cell? ⟨M, 0, none⟩ = some (.pointer (some ⟨S, 0, none⟩)) := fun W b => (hm.below b).c0
    obtain ⟨sl, c, rfl, he⟩ := hm.shape
    have c1 := hm.c1
    obtain ⟨n, hN⟩ : ∃ n, Hid (σ.xs.length = n) := ⟨_, rfl⟩
    rw [hN.out] at c1 hl4
    clear hm hz hpe hτ hok hq
    go_enter Tryd.func32, Tryd.ntmps32
    go_upto_region 4 with fail
    go_loopw [21, 7] (fun v _ wr => ∃ j : Nat, j ≤ n ∧ v = .int .i64 j ∧ (∀ k, k < j → ((ac σ.xs k).sp == q && (ac σ.xs k).st == 5) = false) ∧ Below w.heap.size w wr) (fun v _ _ => 4096 - (intOf v).toNat)
    case atStart => exact ⟨0, Nat.zero_le _, rfl, fun k hk => by omega, Below.refl _ _⟩
    case round =>
      obtain ⟨j, hj, rfl, hall, hb⟩ := hrel
      have HALL := Hid.mk hall
      clear hall
      by_cases hlt : j < n
      · have hjx : j < σ.xs.length := by rw [hN.out]; exact hlt
        have HF : Hid (((ac σ.xs j).sp == q && (ac σ.xs j).st == 5) = true → cacO σ.xs q = some (ac σ.xs j)) := fun e => find_at hjx HALL.out e
        have hmem := Hid.mk (ac_mem hjx)
        have HE : Hid (((ac σ.xs j).sp == q && (ac σ.xs j).st == 5) = false → ∀ k, k < j + 1 → ((ac σ.xs k).sp == q && (ac σ.xs k).st == 5) = false) := fun e k hk => by
          by_cases h : k = j
          · rw [h]; exact e
          · exact HALL.out k (by omega)
        obtain ⟨b, o, rfl, hc⟩ := he.below hb j hjx
        have hlt' : (j : Int) < (n : Int) := by omega
        have hxr : wr.rangeAt b (o + j * 16) (c16 (ac σ.xs j)) := hc
        have hz0 := Cel.new wr (acA zA) 47
        have hth := hz0.there
        have hcx : Cel ((wr.alloc (.cells (acA zA) 47)).setCells wr.heap.size 0 (c16 (ac σ.xs j))) wr.heap.size (acA (ac σ.xs j)) 47 := hz0.ac _
        have B1 : Below w.heap.size w ((wr.alloc (.cells (acA zA) 47)).setCells wr.heap.size 0 (c16 (ac σ.xs j))) := (hb.alloc hb.size (.cells (acA zA) 47)).trans ((But.setCells _ 0 _).below (by have := hb.size; simp; omega) (by simpa using hb.size))
        have hXs : w.heap.size ≤ wr.heap.size := hb.size
        clear hc hz0
        generalize ac σ.xs j = x at *
        rw [zA_A] at *
        go_upto_region 5 with fail
        refine wp_region_lit ?_
        iterate 3 go_step
        refine wpList_load_mid rfl 47 (.tmp 23) rfl b (o + j * 16) rfl (c16 x) _ hxr Tryd.underlying47 rfl size16R ?_
        iterate 3 go_step
        refine wpList_store_mid rfl 47 (.tmp 7) (.tmp 24) rfl wr.heap.size 0 (c16 x).toArray rfl rfl hth size16R (c16_one _) ?_
        rw [show (c16 x).toArray.toList = c16 x from rfl]
        generalize (World.setCells _ wr.heap.size 0 (c16 x)) = w1 at *
        generalize wr.heap.size = X at *
        generalize (Value.agg (c16 x).toArray) = gx at *
        clear hth hxr
        have n0 : w1.cell? ⟨X, 0, none⟩ = some (.int .i64 x.id) := hcx.cell (j := 0) rfl
        have n1 : w1.cell? ⟨X, 1, none⟩ = some (.int .i64 x.st) := hcx.cell (j := 1) rfl
        have n2 : w1.cell? ⟨X, 2, none⟩ = some (.int .i64 x.sp) := hcx.cell (j := 2) rfl
        have f1 := hcx.fz 1
        have B1' : Below w.heap.size w w1 := B1
        clear hb hjx
        by_cases h2 : x.sp = q
        · have h2' : (x.sp == q) = true := by simpa using h2
          by_cases h3 : x.st = 5
          · have h3' : (x.st == 5) = true := by simpa using h3
            have HZ := Hid.mk (HOLD.out x hmem.out (HF.out (by rw [h2', h3']; rfl)))
            have hc2 : Cel (w1.setCell ⟨X, 1, none⟩ (.int .i64 1)) X (acA { x with st := 1 }) 47 := hcx.set (j := 1) _
            have bX : Below w.heap.size w (w1.setCell ⟨X, 1, none⟩ (.int .i64 1)) := B1.trans (((But.refl [X] w1).set (p := ⟨X, 1, none⟩) (by simp) _).below B1.size (by simpa using hXs))
            have hP := HPU x { x with st := 1 } hmem.out rfl _ bX
            have hrv := hc2.range
            have m0 : (w1.setCell ⟨X, 1, none⟩ (.int .i64 1)).cell? ⟨X, 0, none⟩ = some (.int .i64 x.id) := hc2.cell (j := 0) rfl
            have hXn : X ∉ T0 := fun e => by
              have := HRL.out _ e
              omega
            clear HOLD HNEW HPU HTK HM0 hcx hc2 HF HE h2 h3 HK he
            go_upto_region 8 with fail
            generalize w1.setCell ⟨X, 1, none⟩ (.int .i64 1) = W2 at *
            refine wp_region_lit ?_
            iterate 3 go_step
            refine wpList_load_mid rfl 47 (.tmp 7) rfl X 0 rfl (c16 { x with st := 1 }) _ hrv Tryd.underlying47 rfl size16R ?_
            go_wp2_with (go_at_call 58; (refine hP.mono ?_); rintro e w3 ⟨rfl, R', q3, s3⟩; have k0 := s3.but.cell' m0 hXn)
            go_ret2
            exact ⟨by rw [HZ.out.1, HZ.out.2.1]; rfl, R', by rw [HZ.out.2.2]; exact q3, (Step.keep (.of_below bX)).trans s3⟩
          · have h3' : (x.st == 5) = false := by simpa using h3
            have HE1 := Hid.mk (HE.out (by rw [h2', h3']; rfl))
            clear h2 h3 HE HF
            go_wp2_with fail
            go_roundw
            case rel => exact ⟨j + 1, by omega, by simp, HE1.out, B1'⟩
            case measure =>
              simp [intOf]
              omega
        · have h2' : (x.sp == q) = false := by simpa using h2
          have HE1 := Hid.mk (HE.out (by rw [h2']; rfl))
          clear h2 HE HF
          go_wp2_with fail
          go_roundw
          case rel => exact ⟨j + 1, by omega, by simp, HE1.out, B1'⟩
          case measure =>
            simp [intOf]
            omega
      · obtain rfl : j = n := by omega
        have hcac : cacO σ.xs q = none := find_no (fun k hk => HALL.out k (by rw [← hN.out]; exact hk))
        have z0 := HM0 _ hb
        have hT := HTK _ hb
        rcases HNEW.out hcac with ⟨jj, -, e1, e2, e3, e4⟩ | ⟨e1, e2, e3, e4, e5, e6⟩
        · rw [e3] at hT
          have HZ : Hid (z = takeI σ.ag σ.tk ∧ pe = 0 ∧ τ = ⟨takeA σ.ag σ.tk, takeT σ.ag σ.tk, insA (newA (takeI σ.ag σ.tk) q) σ.xs⟩) := ⟨e1, e2, e4⟩
          rw [e4] at hlm
          have HP2 : ∀ w', RM w' M S A K N (.slice sl σ.xs.length c) { σ with ag := takeA σ.ag σ.tk, tk := takeT σ.ag σ.tk } → Calls Tryd.prog 58 #[.pointer (some ⟨M, 0, none⟩), .agg #[.int .i64 (takeI σ.ag σ.tk), .int .i64 1, .int .i64 q, .int .i64 (-1), .int .i64 0, .int .i64 0, .int .i64 0, .int .i64 0, .int .i64 0, .int .i64 0, .int .i64 0, .int .i64 0, .int .i64 0, .int .i64 0, .int .i64 0, .int .i64 0]] w' fun e w3 => e = .returned (.tuple #[]) ∧ ∃ R', RQ w3 M R' N ⟨takeA σ.ag σ.tk, takeT σ.ag σ.tk, insA (newA (takeI σ.ag σ.tk) q) σ.xs⟩ ∧ Step T0 w' R' w3 := fun w' hr => rput_any ⟨S, A, K, _, hT0.out.symm, hr⟩ (newA (takeI σ.ag σ.tk) q) hlm
          clear e1 e2 e3 e4 HOLD HNEW HPU HTK HM0 HK hlm he
          generalize takeI σ.ag σ.tk = ti at *
          go_wp2_with (first | (go_at_call 59; (with_reducible refine hT.mono ?_); rintro e w2 ⟨rfl, q2, s2⟩; have hP2 := HP2 w2 q2) | (go_at_call 58; (with_reducible refine hP2.mono ?_); rintro e w3 ⟨rfl, R', q3, s3⟩; have s4 := s2.trans s3))
          go_ret2
          exact ⟨by rw [HZ.out.1, HZ.out.2.1]; rfl, R', by rw [HZ.out.2.2]; exact q3, s4⟩
        · rw [e3, e5, e6] at hT
          have HZ : Hid (z = 0 ∧ pe = 3 ∧ τ = σ) := ⟨e1, e2, e4⟩
          clear e1 e2 e3 e4 e5 e6 HOLD HNEW HPU HTK HM0 HK hlm he
          generalize takeI σ.ag σ.tk = ti at *
          go_wp2_with (go_at_call 59; (with_reducible refine hT.mono ?_); rintro e w2 ⟨rfl, q2, s2⟩)
          go_ret2
          exact ⟨by rw [HZ.out.1, HZ.out.2.1]; rfl, T0, by rw [HZ.out.2.2]; exact ⟨S, A, K, _, hT0.out.symm, q2⟩, s2⟩
end
end Go.Proofs.YtjgclehghnmhnaaDoor
