/- Make, New, Get. -/
import Derived.Test.YtjgclehghnmhnaaDoorLfK
import Derived.Test.YtjgclehghnmhnaaDoorLfC
namespace Go.Proofs.YtjgclehghnmhnaaDoor
open Go Go.RowKit

section
variable {w : World} {B N : Nat} {T : List Nat} {σ : Sta}
theorem acA_new (i sp : Int) : acA (newA i sp) = #[.int .i64 i, .int .i64 1, .int .i64 sp, .int .i64 (-1), .int .i64 0, .int .i64 0, .int .i64 0, .int .i64 0, .int .i64 0, .int .i64 0, .int .i64 0, .int .i64 0, .int .i64 0, .int .i64 0, .int .i64 0, .int .i64 0] := rfl
theorem mk_out {σ : Sta} {sp : Int} (h : sp < 1 ∨ 16 < sp) : mkI σ sp = 0 ∧ mkE σ sp = 2 ∧ mkS σ sp = σ := by
  unfold mkI mkE mkS
  exact ⟨if_pos h, if_pos h, if_pos h⟩
theorem mk_old {σ : Sta} {sp : Int} {a : Ac} (h : ¬ (sp < 1 ∨ 16 < sp)) (hc : cacO σ.xs sp = some a) : mkI σ sp = a.id ∧ mkE σ sp = 0 ∧ mkS σ sp = { σ with xs := insA { a with st := 1 } σ.xs } := by
  unfold mkI mkE mkS
  rw [if_neg h, if_neg h, if_neg h, hc]
  exact ⟨rfl, rfl, rfl⟩
theorem mk_new {σ : Sta} {sp : Int} {j : Nat} (h : ¬ (sp < 1 ∨ 16 < sp)) (hc : cacO σ.xs sp = none) (ho : leastO σ.ag σ.tk = some j) : mkI σ sp = takeI σ.ag σ.tk ∧ mkE σ sp = takeE σ.ag σ.tk ∧ mkS σ sp = ⟨takeA σ.ag σ.tk, takeT σ.ag σ.tk, insA (newA (takeI σ.ag σ.tk) sp) σ.xs⟩ := by
  unfold mkI mkE mkS
  rw [if_neg h, if_neg h, if_neg h, hc]
  dsimp only
  rw [ho]
  exact ⟨rfl, rfl, rfl⟩
theorem mk_full {σ : Sta} {sp : Int} (h : ¬ (sp < 1 ∨ 16 < sp)) (hc : cacO σ.xs sp = none) (ho : leastO σ.ag σ.tk = none) : mkI σ sp = 0 ∧ mkE σ sp = 3 ∧ mkS σ sp = σ := by
  obtain ⟨e1, e2, _⟩ := take_none ho
  unfold mkI mkE mkS
  rw [if_neg h, if_neg h, if_neg h, hc]
  dsimp only
  rw [ho]
  exact ⟨e2, e1, rfl⟩

set_option maxHeartbeats 2000000 in
set_option maxRecDepth 100000 in
theorem make_any (h : TQ w B T N σ) (hV : Env w) (sp : Int) :
    Calls Tryd.prog 19 #[.pointer (some ⟨B, 0, none⟩), .int .i64 sp] w fun e w' => e = .returned (.tuple #[.int .i64 (mkI σ sp), .int .i64 (mkE σ sp)]) ∧ ∃ T', TQ w' B T' N (mkS σ sp) ∧ Step T w T' w' := by
  obtain ⟨S, G, M, pb, rfl, hm⟩ := h
  have hM := tmade hm
  by_cases hs : sp < 1 ∨ 16 < sp
  · obtain ⟨e1, e2, e3⟩ := mk_out (σ := σ) hs
    rw [e1, e2, e3]
    clear e1 e2 e3
    by_cases h1 : sp < 1
    · clear hs
      go_enter Tryd.func19, Tryd.ntmps19
      go_wp2_with (go_at_call 40; refine hM.mono ?_; rintro e w' ⟨rfl, hw⟩; subst w')
      go_ret2
      exact ⟨rfl, _, ⟨S, G, M, pb, rfl, hm⟩, Step.refl _ _⟩
    · have h2 : 16 < sp := by omega
      clear hs
      go_enter Tryd.func19, Tryd.ntmps19
      go_wp2_with (go_at_call 40; refine hM.mono ?_; rintro e w' ⟨rfl, hw⟩; subst w')
      go_ret2
      exact ⟨rfl, _, ⟨S, G, M, pb, rfl, hm⟩, Step.refl _ _⟩
  · have h1 : ¬ sp < 1 := by omega
    have h2 : ¬ 16 < sp := by omega
    have hC := cached_any hm hV sp
    cases hc : cacO σ.xs sp with
    | some a =>
      obtain ⟨e1, e2, e3⟩ := mk_old hs hc
      have hok := hm.ok.make sp
      rw [e3] at hok
      rw [e1, e2, e3]
      obtain ⟨ha, _, hst⟩ := cac_some hc
      rw [hc] at hC
      simp only [Option.map_some, ptr] at hC
      have HK : Hid (∀ W, Below w.heap.size w W → W.cell? ⟨pb a.id, 1, none⟩ = some (.int .i64 a.st) ∧ W.frozen? ⟨pb a.id, 1, none⟩ = false ∧ (W.setCell ⟨pb a.id, 1, none⟩ (.int .i64 1)).cell? ⟨pb a.id, 0, none⟩ = some (.int .i64 a.id) ∧ TM (W.setCell ⟨pb a.id, 1, none⟩ (.int .i64 1)) B S G M N pb { σ with xs := insA { a with st := 1 } σ.xs } ∧ bT B S G M pb ({ σ with xs := insA { a with st := 1 } σ.xs } : Sta).xs = bT B S G M pb σ.xs ∧ But (bT B S G M pb σ.xs) w (W.setCell ⟨pb a.id, 1, none⟩ (.int .i64 1))) := fun W hB => by
        have hmW := hm.below hB
        have hcW := hmW.a a ha
        have hc1 : Cel (W.setCell ⟨pb a.id, 1, none⟩ (.int .i64 1)) (pb a.id) (acA { a with st := 1 }) 44 := hcW.set (j := 1) _
        have hb1 : But [pb a.id] W (W.setCell ⟨pb a.id, 1, none⟩ (.int .i64 1)) := (But.refl _ W).set (p := ⟨pb a.id, 1, none⟩) (by simp) _
        obtain ⟨k1, k2⟩ := hmW.upd (a' := { a with st := 1 }) ha rfl hb1 hc1 hok
        exact ⟨hcW.cell (j := 1) rfl, hcW.fz 1, hc1.cell (j := 0) rfl, k1, k2, (But.of_below hB).trans (hb1.mono (fun x hx => by rw [List.mem_singleton.1 hx]; exact bT_mem ha))⟩
      clear hok hs hc e1 e2 e3 ha
      generalize ({ σ with xs := insA { a with st := 1 } σ.xs } : Sta) = σ1 at *
      go_enter Tryd.func19, Tryd.ntmps19
      go_wp2_with (first
        | (go_at_call 40; refine hM.mono ?_; rintro e w' ⟨rfl, hw⟩; subst w')
        | (go_at_call 43; refine hC.mono ?_; rintro e w1 ⟨rfl, hB1⟩; obtain ⟨x1, x2, x3, x4, x5, x6⟩ := HK.out w1 hB1; replace x5 := Hid.mk x5))
      go_ret2
      exact ⟨rfl, bT B S G M pb σ.xs, ⟨S, G, M, pb, x5.out.symm, x4⟩, x6, fun x hx => .inl hx⟩
    | none =>
      rw [hc] at hC
      simp only [Option.map_none, ptr] at hC
      cases ho : leastO σ.ag σ.tk with
      | none =>
        obtain ⟨e1, e2, e3⟩ := mk_full hs hc ho
        obtain ⟨t1, t2, t3, t4⟩ := take_none ho
        rw [e1, e2, e3]
        have HT : ∀ W, Below w.heap.size w W → Calls Tryd.prog 44 #[.pointer (some ⟨S, 0, none⟩)] W fun e w' => e = .returned (.tuple #[.int .i64 0, .int .i64 3]) ∧ SlQ w' S G N σ.ag σ.tk ∧ But [S, G] W w' := fun W hB => by
          have := take_any (hm.below hB).s (hV.on hB).t
          rw [t1, t2, t3, t4] at this
          exact this
        have HC : ∀ W, Below w.heap.size w W → W.cell? ⟨B, 0, none⟩ = some (.pointer (some ⟨S, 0, none⟩)) := fun W hB => (hm.below hB).c0
        have HS : Hid (∀ W W', Below w.heap.size w W → SlQ W' S G N σ.ag σ.tk → But [S, G] W W' → TM W' B S G M N pb σ) := fun W W' hB hs hb => by
          have hW := hm.below hB
          obtain ⟨a1, a2, a3, a4, a5, a6, hap, hnd⟩ := hW.apart
          exact ⟨(hb.block B (hW.lt (by simp [bT])) (by simp; exact ⟨a1, a2⟩)).trans hW.b, hs, hW.m.but hb (by simp; exact ⟨Ne.symm a5, Ne.symm a6⟩), fun a ha => (hW.a a ha).but hb (by obtain ⟨n1, n2, n3, n4⟩ := hap a ha; simp; exact ⟨n2, n3⟩), hW.nd, hW.ok⟩
        clear e1 e2 e3 t1 t2 t3 t4 ho hc hs
        go_enter Tryd.func19, Tryd.ntmps19
        go_wp2_with (first
          | (go_at_call 40; refine hM.mono ?_; rintro e w' ⟨rfl, hw⟩; subst w')
          | (go_at_call 43; refine hC.mono ?_; rintro e w1 ⟨rfl, hB1⟩; have x1 := HC w1 hB1)
          | (go_at_call 44; refine (HT w1 hB1).mono ?_; rintro e w2 ⟨rfl, hs2, hb2⟩))
        go_ret2
        exact ⟨rfl, _, ⟨S, G, M, pb, rfl, HS.out _ _ hB1 hs2 hb2⟩, (But.of_below hB1).trans (hb2.mono (fun x hx => by simp [bT] at hx ⊢; rcases hx with rfl | rfl <;> simp)), fun x hx => .inl hx⟩
      | some j =>
        obtain ⟨e1, e2, e3⟩ := mk_new hs hc ho
        obtain ⟨t0, tv, tr, tok⟩ := hm.ok.take ho
        rw [e1, e2, e3]
        have HT : ∀ W, Below w.heap.size w W → Calls Tryd.prog 44 #[.pointer (some ⟨S, 0, none⟩)] W fun e w' => e = .returned (.tuple #[.int .i64 (takeI σ.ag σ.tk), .int .i64 0]) ∧ SlQ w' S G N (takeA σ.ag σ.tk) (takeT σ.ag σ.tk) ∧ But [S, G] W w' := fun W hB => by
          have := take_any (hm.below hB).s (hV.on hB).t
          rw [t0] at this
          exact this
        rw [t0]
        have tok := tok sp
        have hnew : ∀ b ∈ σ.xs, b.id ≠ takeI σ.ag σ.tk := fun b hb e => by
          have := (hm.ok.live b.id).2 ⟨b, hb, rfl⟩
          rw [e, tv] at this
          cases this
        have hi : In64 (takeI σ.ag σ.tk) := ⟨by omega, by omega⟩
        generalize takeI σ.ag σ.tk = id at *
        generalize takeA σ.ag σ.tk = ag1 at *
        generalize takeT σ.ag σ.tk = tk1 at *
        have hf : fB pb σ.xs id = none := by unfold fB; rw [fnd_not hnew]; rfl
        have hlen : σ.xs.length < maxLen := by
          have := hm.ok.len
          have := hm.ok.n4
          unfold maxLen
          omega
        have HC : ∀ W, Below w.heap.size w W → W.cell? ⟨B, 0, none⟩ = some (.pointer (some ⟨S, 0, none⟩)) := fun W hB => (hm.below hB).c0
        have HK : ∀ W W', Below w.heap.size w W → But [S, G] W W' → W'.cell? ⟨B, 1, none⟩ = some (.map (some M)) ∧ PM (W'.alloc (.cells (acA (newA id sp)) 44)) M σ.xs.length (fB pb σ.xs) := fun W W' hB hb => by
          have hW := hm.below hB
          obtain ⟨a1, a2, a3, a4, a5, a6, hap, hnd⟩ := hW.apart
          exact ⟨hb.cell' hW.c1 (by simp; exact ⟨a1, a2⟩), (hW.m.but hb (by simp; exact ⟨Ne.symm a5, Ne.symm a6⟩)).but ((But.refl [] W').alloc _) (by simp)⟩
        have HN : Hid (∀ W w1 w3, Below w.heap.size w W → SlQ w1 S G N ag1 tk1 → But [S, G] W w1 → PM w3 M (σ.xs.length + 1) (fun j => if j = id then some w1.heap.size else fB pb σ.xs j) → But [M] (w1.alloc (.cells (acA (newA id sp)) 44)) w3 → ∃ T', TQ w3 B T' N ⟨ag1, tk1, insA (newA id sp) σ.xs⟩ ∧ Step (bT B S G M pb σ.xs) w T' w3) := fun W w1 w3 hB k1 k2 k3 k4 => by
          obtain ⟨pb', q1, q2⟩ := (hm.below hB).new (n := newA id sp) k1 k2 hnew k3 k4 tok
          exact ⟨_, ⟨S, G, M, pb', rfl, q1⟩, (Step.keep (.of_below hB)).trans q2⟩
        clear e1 e2 e3 t0 tv tr tok ho hc hs hnew
        rw [acA_new] at HK HN
        go_enter Tryd.func19, Tryd.ntmps19
        go_wp2_with (first
          | (go_at_call 40; refine hM.mono ?_; rintro e w' ⟨rfl, hw⟩; subst w')
          | (go_at_call 43; refine hC.mono ?_; rintro e w1 ⟨rfl, hB1⟩; have x1 := HC w1 hB1)
          | (go_at_call 44; refine (HT w1 hB1).mono ?_; rintro e w2 ⟨rfl, hs2, hb2⟩; obtain ⟨x2, x3⟩ := HK w1 w2 hB1 hb2)
          | (at_mapUpdate; refine wpList_storeP _ rfl _ _ _ rfl M _ _ rfl x3 id w2.heap.size rfl rfl hi hf hlen ?_; intro w3 hm3 hb3)
          | go_in)
        go_ret2
        exact ⟨rfl, HN.out _ _ _ hB1 hs2 hb2 hm3 hb3⟩

theorem tnew_none (m : Int) (hm : m < 1 ∨ 4096 < m) (w : World) : Calls Tryd.prog 9 #[.int .i64 m] w fun e w' => e = .returned (.pointer none) ∧ w' = w := by
  have hN := new_none m hm w
  go_enter Tryd.func9, Tryd.ntmps9
  go_wp2_with (go_at_call 29; refine hN.mono ?_; rintro e w' ⟨rfl, hw⟩; subst w')
  go_ret
  exact ⟨rfl, rfl⟩
set_option maxHeartbeats 1000000 in
theorem tnew_some (n : Nat) (h1 : 1 ≤ n) (h2 : n ≤ 4096) (w : World) :
    Calls Tryd.prog 9 #[.int .i64 n] w fun e w' => ∃ B T, e = .returned (.pointer (some ⟨B, 0, none⟩)) ∧ TQ w' B T n ⟨List.replicate n 0, List.replicate n false, []⟩ ∧ Step [] w T w' := by
  have hN := new_some n h1 h2 w
  have hmm := @run_makeMap Tryd.prog
  have HF : Hid (∀ w1, SlQ w1 (w.heap.size + 1) w.heap.size n (List.replicate n 0) (List.replicate n false) → Below w.heap.size w w1 → ∃ T, TQ ((w1.alloc (.map #[] 0)).alloc (.cells #[.pointer (some ⟨w.heap.size + 1, 0, none⟩), .map (some w1.heap.size)] 67)) (w1.heap.size + 1) T n ⟨List.replicate n 0, List.replicate n false, []⟩ ∧ Step [] w T ((w1.alloc (.map #[] 0)).alloc (.cells #[.pointer (some ⟨w.heap.size + 1, 0, none⟩), .map (some w1.heap.size)] 67))) := fun w1 hs hB => by
    obtain ⟨l1, l2, _⟩ := hs.lts
    have hl := hB.size
    have b1 : But [] w1 (w1.alloc (.map #[] 0)) := (But.refl [] w1).alloc _
    have b2 : But [] w1 ((w1.alloc (.map #[] 0)).alloc (.cells #[.pointer (some ⟨w.heap.size + 1, 0, none⟩), .map (some w1.heap.size)] 67)) := b1.alloc _
    refine ⟨_, ⟨w.heap.size + 1, w.heap.size, w1.heap.size, fun _ => 0, rfl, ⟨?_, hs.keep b2, ?_, fun a ha => by simp at ha, ?_, okk_new h2⟩⟩, (But.of_below hB).trans b2, fun x hx => .inr ?_⟩
    · have := heap_alloc_new (w1.alloc (.map #[] 0)) (.cells #[.pointer (some ⟨w.heap.size + 1, 0, none⟩), .map (some w1.heap.size)] 67)
      rw [World.size_alloc] at this
      exact this
    · exact (PM.made w1).but ((But.refl [] _).alloc _) (by simp)
    · simp [bT]
      omega
    · simp [bT] at hx
      omega
  have hn1 : Hid (1 ≤ n) := h1
  clear h1 h2
  go_enter Tryd.func9, Tryd.ntmps9
  go_wp2_with (go_at_call 29; refine hN.mono ?_; rintro e w1 ⟨rfl, hs1, -, hB1⟩)
  go_ret
  obtain ⟨T, q1, q2⟩ := HF.out w1 hs1 hB1
  exact ⟨_, T, rfl, q1, q2⟩
end
end Go.Proofs.YtjgclehghnmhnaaDoor
