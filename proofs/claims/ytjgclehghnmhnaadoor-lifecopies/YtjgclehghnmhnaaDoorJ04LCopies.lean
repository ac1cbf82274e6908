/- The document's out. -/
/- Make, New, Get. -/
import Derived.Test.YtjgclehghnmhnaaDoorJ03LCopies
import Derived.Test.YtjgclehghnmhnaaDoorLfK
import Derived.Test.YtjgclehghnmhnaaDoorLfC
namespace Go.Proofs.YtjgclehghnmhnaaDoor
open Go Go.RowKit

theorem remA_cons (x : Ac) (r : List Ac) (i : Int) : remA (x :: r) i = (if x.id ≠ i then [x] else []) ++ remA r i := by
  unfold remA
  by_cases h : x.id = i
  · simp [h]
  · simp [h]
theorem remA_len (xs : List Ac) (i : Int) : (remA xs i).length ≤ xs.length := List.length_filter_le _ _
section
variable {w w' : World} {M S A K N : Nat} {v : Value} {R : List Nat} {σ : Sta}
/-- The slots have turned. -/
theorem RM.slots (h : RM w M S A K N v σ) {ag : List Nat} {tk : List Bool} (hs : RS w' S A K N ag tk) (hb : But [A, K] w w') : RM w' M S A K N v { σ with ag := ag, tk := tk } := by
  obtain ⟨a1, a2, a3, a4, a5, a6, a7⟩ := h.apart
  exact ⟨(hb.block M (h.lt (by simp [bR])) (by simp [a2, a3])).trans h.b, hs, h.h.put (fun k hk => hb.block k (h.lt (by simp [bR, hk])) (by
    simp only [List.mem_cons, List.not_mem_nil, or_false, not_or]
    exact ⟨fun e => a6 (e ▸ hk), fun e => a7 (e ▸ hk)⟩)), h.nd, h.len, h.srt⟩
set_option maxHeartbeats 4000000 in
set_option maxRecDepth 100000 in
theorem rout_rm (hm : RM w M S A K N v σ) (i : Int) (hi : i ≤ 9223372036854775807) :
    Calls Tryd.prog 61 #[.pointer (some ⟨M, 0, none⟩), .int .i64 i] w fun e w' => e = .returned (.tuple #[]) ∧ ∃ v', RM w' M S A K N v' (endS σ i) ∧ Step (bR M S A K v) w (bR M S A K v') w' ∧ But [M, K] w w' := by
  have hl := hm.len
  have hlr : (remA σ.xs i).length ≤ 4096 := Nat.le_trans (remA_len _ _) hl
  have HFR : Hid (∀ W v', Below w.heap.size w W → OwA 47 W w.heap.size v' (remA σ.xs i) → RM (W.setCell ⟨M, 1, none⟩ v') M S A K N v' { σ with xs := remA σ.xs i } ∧ Step (bR M S A K v) w (bR M S A K v') (W.setCell ⟨M, 1, none⟩ v')) := fun W v' hB ho => ⟨(hm.fresh hB ho hlr (remA_srt hm.srt i)).1, (hm.fresh hB ho hlr (remA_srt hm.srt i)).2.1⟩
  obtain ⟨sl, c, rfl, he⟩ := hm.shape
  have c1 := hm.c1
  have HM : ∀ W, Below w.heap.size w W → W.cell? ⟨M, 1, none⟩ = some (.slice sl σ.xs.length c) ∧ W.frozen? ⟨M, 1, none⟩ = false := fun W hB => ⟨(hm.below hB).c1, (hm.below hB).fb 1⟩
  obtain ⟨n, hN⟩ : ∃ n, Hid (σ.xs.length = n) := ⟨_, rfl⟩
  have hn' : n ≤ 4096 := by rw [← hN.out]; exact hl
  rw [hN.out] at c1 HM
  clear hl hm
  go_enter Tryd.func61, Tryd.ntmps61
  go_upto_region 2 with fail
  go_loopw [4, 12, 6] (fun s x _ wr => ∃ (j : Nat) (out : List Ac), j ≤ n ∧ x = .int .i64 j ∧ OwA 47 wr w.heap.size s out ∧ out ++ remA (σ.xs.drop j) i = remA σ.xs i ∧ Below w.heap.size w wr) (fun _ x _ _ => 4096 - (intOf x).toNat)
  case atStart => exact ⟨0, [], Nat.zero_le _, rfl, OwA.nil _ _, rfl, Below.refl _ _⟩
  case round =>
    obtain ⟨j, out, hj, rfl, ho, heq, hb⟩ := hrel
    have HQ := Hid.mk heq
    have hol : out.length ≤ 4096 := by
      have e := congrArg List.length heq
      rw [List.length_append] at e
      omega
    clear heq
    by_cases hlt : j < n
    · have hjx : j < σ.xs.length := by rw [hN.out]; exact hlt
      have hq := HQ.out
      rw [ac_drop hjx, remA_cons] at hq
      obtain ⟨b, o, rfl, hc⟩ := he.below hb j hjx
      have hlt' : (j : Int) < (n : Int) := by omega
      have hxr : wr.rangeAt b (o + j * 16) (c16 (ac σ.xs j)) := hc
      have hz0 := Cel.new wr (acA zA) 47
      have hth := hz0.there
      have hcx : Cel ((wr.alloc (.cells (acA zA) 47)).setCells wr.heap.size 0 (c16 (ac σ.xs j))) wr.heap.size (acA (ac σ.xs j)) 47 := hz0.ac _
      have B1 : Below w.heap.size w ((wr.alloc (.cells (acA zA) 47)).setCells wr.heap.size 0 (c16 (ac σ.xs j))) := (hb.alloc hb.size (.cells (acA zA) 47)).trans ((But.setCells _ 0 _).below (by have := hb.size; simp; omega) (by simpa using hb.size))
      have ho1 : OwA 47 ((wr.alloc (.cells (acA zA) 47)).setCells wr.heap.size 0 (c16 (ac σ.xs j))) w.heap.size u4 out := (ho.below ((Below.refl _ wr).alloc (Nat.le_refl _) _)).put (fun k hk => (But.setCells _ 0 _).block k (by have := (ho.lt hk).2; simp; omega) (by have := (ho.lt hk).2; simp; omega))
      clear hc hjx hz0 ho
      generalize ac σ.xs j = x at *
      rw [zA_A] at *
      go_upto_region 3 with fail
      refine wp_region_lit ?_
      iterate 3 go_step
      refine wpList_load_mid rfl 47 (.tmp 14) rfl b (o + j * 16) rfl (c16 x) _ hxr Tryd.underlying47 rfl size16R ?_
      iterate 3 go_step
      refine wpList_store_mid rfl 47 (.tmp 6) (.tmp 15) rfl wr.heap.size 0 (c16 x).toArray rfl rfl hth size16R (c16_one _) ?_
      rw [show (c16 x).toArray.toList = c16 x from rfl]
      generalize (World.setCells _ wr.heap.size 0 (c16 x)) = w1 at *
      generalize wr.heap.size = X at *
      generalize (Value.agg (c16 x).toArray) = gx at *
      have hx1 : At16 w1 X 0 x := hcx.range
      have n0 : w1.cell? ⟨X, 0, none⟩ = some (.int .i64 x.id) := hcx.cell (j := 0) rfl
      have hol1 : out.length + 1 ≤ 100000 := by omega
      have oA := ho1.below ((Below.refl _ w1).alloc (Nat.le_refl _) (.cells (acA x) 47))
      have avA := av_one w1 x 47
      have BA : Below w.heap.size w (w1.alloc (.cells (acA x) 47)) := B1.alloc B1.size _
      have szA := BA.size
      clear hcx hth hxr hb
      by_cases hid : x.id = i
      · have hid' : (x.id == i) = true := by simpa using hid
        have HQ1 : Hid (out ++ remA (σ.xs.drop (j + 1)) i = remA σ.xs i) := by
          show _ = _
          rw [← hq]
          simp [hid]
        clear hq hid
        go_wp2_with fail
        go_roundw
        case rel => exact ⟨j + 1, out, by omega, by simp, ho1, HQ1.out, B1⟩
        case measure =>
          simp [intOf]
          omega
      · have hid' : (x.id == i) = false := by simpa using hid
        have HQ1 : Hid ((out ++ [x]) ++ remA (σ.xs.drop (j + 1)) i = remA σ.xs i) := by
          show _ = _
          rw [← hq]
          simp [hid]
        clear hq
        go_upto_region 5 with fail
        refine wp_region_lit ?_
        iterate 3 go_step
        refine wpList_load_mid rfl 47 (.tmp 6) rfl X 0 rfl (c16 x) _ hx1 Tryd.underlying47 rfl size16R ?_
        refine wpList_bsR rfl (.tmp 21) rfl x rfl ?_
        refine wpList_appA tyR rfl _ _ rfl w.heap.size _ _ rfl oA _ _ _ [x] rfl rfl avA hol1 szA ?_
        intro v3 w3 o3 g3 s3
        have b3 := below_grown BA g3 oA szA
        go_wp2_with fail
        go_roundw
        case rel => exact ⟨j + 1, (out ++ [x]), by omega, by simp, o3, HQ1.out, b3⟩
        case measure =>
          simp [intOf]
          omega
    · obtain rfl : j = n := by omega
      have hq := HQ.out
      rw [List.drop_eq_nil_of_le (by rw [hN.out]; exact Nat.le_refl _)] at hq
      have HF : out = remA σ.xs i := by
        have : out ++ [] = remA σ.xs i := hq
        simpa using this
      subst HF
      obtain ⟨z1, z2⟩ := HM _ hb
      obtain ⟨q1, q2⟩ := HFR.out wr _ hb ho
      have hF := rfree_any q1.s i hi
      have bM : But [M] wr (wr.setCell ⟨M, 1, none⟩ u4) := (But.refl _ wr).set (p := ⟨M, 1, none⟩) (by simp) _
      have hbM : But [M, K] w (wr.setCell ⟨M, 1, none⟩ u4) := (But.of_below hb : But [M, K] w wr).trans (bM.mono (by simp))
      have z3 : (wr.setCell ⟨M, 1, none⟩ u4).cell? ⟨M, 0, none⟩ = some (.pointer (some ⟨S, 0, none⟩)) := q1.c0
      have HE : Hid (∀ W, RS W S A K N σ.ag (freeT σ.ag σ.tk i) → But [K] (wr.setCell ⟨M, 1, none⟩ u4) W → RM W M S A K N u4 (endS σ i) ∧ Step (bR M S A K (.slice sl σ.xs.length c)) w (bR M S A K u4) W ∧ But [M, K] w W) := fun W hs hb => by
        have b2 : But [A, K] (wr.setCell ⟨M, 1, none⟩ u4) W := hb.mono (by simp)
        exact ⟨q1.slots hs b2, q2.trans (Step.same (hb.mono (by simp [bR]))), hbM.trans (hb.mono (by simp))⟩
      clear hq HQ q1 q2 hbM bM HFR HM
      obtain ⟨va, vc, e3, -⟩ := ho.sl
      generalize (remA σ.xs i).length = m at e3
      subst e3
      go_wp2_with (go_at_call 71; (with_reducible refine hF.mono ?_); rintro e w3 ⟨rfl, s3, b3⟩)
      go_end0
      obtain ⟨y1, y2, y3⟩ := HE.out w3 s3 b3
      exact ⟨rfl, _, y1, y2, y3⟩
theorem rout_any (h : RQ w M R N σ) (i : Int) (hi : i ≤ 9223372036854775807) :
    Calls Tryd.prog 61 #[.pointer (some ⟨M, 0, none⟩), .int .i64 i] w fun e w' => e = .returned (.tuple #[]) ∧ ∃ R', RQ w' M R' N (endS σ i) ∧ Step R w R' w' := by
  obtain ⟨S, A, K, v, rfl, hm⟩ := h
  exact (rout_rm hm i hi).mono (fun e w' ⟨e1, v', q, s, _⟩ => ⟨e1, _, ⟨S, A, K, v', rfl, q⟩, s⟩)
end
end Go.Proofs.YtjgclehghnmhnaaDoor
namespace Go.Proofs.YtjgclehghnmhnaaDoor
open Go Go.RowKit

section
variable {w : World} {B N : Nat} {T : List Nat} {σ : Sta}
theorem acA_new (i sp : Int) : acA (newA i sp) = #[.int .i64 i, .int .i64 1, .int .i64 sp, .int .i64 (-1), .int .i64 0, .int .i64 0, .int .i64 0, .int .i64 0, .int .i64 0, .int .i64 0, .int .i64 0, .int .i64 0, .int .i64 0, .int .i64 0, .int .i64 0, .int .i64 0] := rfl
theorem mk_out {σ : Sta} {sp : Int} (h : sp < 1 ∨ 16 < sp) : mkI σ sp = 0 ∧ mkE σ sp = 2 ∧ mkS σ sp = σ := by
  unfold mkI mkE mkS
  exact ⟨if_pos h, if_pos h, if_pos h⟩
theorem mk_old {σ : Sta} {sp : Int} {a : Ac} (h : ¬ (sp < 1 ∨ 16 < sp)) (hc : cacO σ.xs sp = some a) : mkI σ sp = a.id ∧ mkE σ sp = 0 ∧ mkS σ sp = { σ with xs := insA { a with st := 1 } σ.xs } := by
  unfold mkI mkE mkS
  rw [if_neg h, if_neg h, if_neg h, hc]
  exact ⟨rfl, rfl, rfl⟩
theorem mk_new {σ : Sta} {sp : Int} {j : Nat} (h : ¬ (sp < 1 ∨ 16 < sp)) (hc : cacO σ.xs sp = none) (ho : leastO σ.ag σ.tk = some j) : mkI σ sp = takeI σ.ag σ.tk ∧ mkE σ sp = takeE σ.ag σ.tk ∧ mkS σ sp = ⟨takeA σ.ag σ.tk, takeT σ.ag σ.tk, insA (newA (takeI σ.ag σ.tk) sp) σ.xs⟩ := by
  unfold mkI mkE mkS
  rw [if_neg h, if_neg h, if_neg h, hc]
  dsimp only
  rw [ho]
  exact ⟨rfl, rfl, rfl⟩
theorem mk_full {σ : Sta} {sp : Int} (h : ¬ (sp < 1 ∨ 16 < sp)) (hc : cacO σ.xs sp = none) (ho : leastO σ.ag σ.tk = none) : mkI σ sp = 0 ∧ mkE σ sp = 3 ∧ mkS σ sp = σ := by
  obtain ⟨e1, e2, _⟩ := take_none ho
  unfold mkI mkE mkS
  rw [if_neg h, if_neg h, if_neg h, hc]
  dsimp only
  rw [ho]
  exact ⟨e2, e1, rfl⟩

set_option maxHeartbeats 2000000 in
set_option maxRecDepth 100000 in
theorem make_any (h : TQ w B T N σ) (hV : Env w) (sp : Int) :
    Calls Tryd.prog 19 #[.pointer (some ⟨B, 0, none⟩), .int .i64 sp] w fun e w' => e = .returned (.tuple #[.int .i64 (mkI σ sp), .int .i64 (mkE σ sp)]) ∧ ∃ T', TQ w' B T' N (mkS σ sp) ∧ Step T w T' w' := by
  obtain ⟨S, G, M, pb, rfl, hm⟩ := h
  have hM := tmade hm
  by_cases hs : sp < 1 ∨ 16 < sp
  · obtain ⟨e1, e2, e3⟩ := mk_out (σ := σ) hs
    rw [e1, e2, e3]
    clear e1 e2 e3
    by_cases h1 : sp < 1
    · clear hs
      go_enter Tryd.func19, Tryd.ntmps19
      go_wp2_with (go_at_call 40; refine hM.mono ?_; rintro e w' ⟨rfl, hw⟩; subst w')
      go_ret2
      exact ⟨rfl, _, ⟨S, G, M, pb, rfl, hm⟩, Step.refl _ _⟩
    · have h2 : 16 < sp := by omega
      clear hs
      go_enter Tryd.func19, Tryd.ntmps19
      go_wp2_with (go_at_call 40; refine hM.mono ?_; rintro e w' ⟨rfl, hw⟩; subst w')
      go_ret2
      exact ⟨rfl, _, ⟨S, G, M, pb, rfl, hm⟩, Step.refl _ _⟩
  · have h1 : ¬ sp < 1 := by omega
    have h2 : ¬ 16 < sp := by omega
    have hC := cached_any hm hV sp
    cases hc : cacO σ.xs sp with
    | some a =>
      obtain ⟨e1, e2, e3⟩ := mk_old hs hc
      have hok := hm.ok.make sp
      rw [e3] at hok
      rw [e1, e2, e3]
      obtain ⟨ha, _, hst⟩ := cac_some hc
      rw [hc] at hC
      simp only [Option.map_some, ptr] at hC
      have HK : Hid (∀ W, Below w.heap.size w W → W.cell? ⟨pb a.id, 1, none⟩ = some (.int .i64 a.st) ∧ W.frozen? ⟨pb a.id, 1, none⟩ = false ∧ (W.setCell ⟨pb a.id, 1, none⟩ (.int .i64 1)).cell? ⟨pb a.id, 0, none⟩ = some (.int .i64 a.id) ∧ TM (W.setCell ⟨pb a.id, 1, none⟩ (.int .i64 1)) B S G M N pb { σ with xs := insA { a with st := 1 } σ.xs } ∧ bT B S G M pb ({ σ with xs := insA { a with st := 1 } σ.xs } : Sta).xs = bT B S G M pb σ.xs ∧ But (bT B S G M pb σ.xs) w (W.setCell ⟨pb a.id, 1, none⟩ (.int .i64 1))) := fun W hB => by
        have hmW := hm.below hB
        have hcW := hmW.a a ha
        have hc1 : Cel (W.setCell ⟨pb a.id, 1, none⟩ (.int .i64 1)) (pb a.id) (acA { a with st := 1 }) 44 := hcW.set (j := 1) _
        have hb1 : But [pb a.id] W (W.setCell ⟨pb a.id, 1, none⟩ (.int .i64 1)) := (But.refl _ W).set (p := ⟨pb a.id, 1, none⟩) (by simp) _
        obtain ⟨k1, k2⟩ := hmW.upd (a' := { a with st := 1 }) ha rfl hb1 hc1 hok
        exact ⟨hcW.cell (j := 1) rfl, hcW.fz 1, hc1.cell (j := 0) rfl, k1, k2, (But.of_below hB).trans (hb1.mono (fun x hx => by rw [List.mem_singleton.1 hx]; exact bT_mem ha))⟩
      clear hok hs hc e1 e2 e3 ha
      generalize ({ σ with xs := insA { a with st := 1 } σ.xs } : Sta) = σ1 at *
      go_enter Tryd.func19, Tryd.ntmps19
      go_wp2_with (first
        | (go_at_call 40; refine hM.mono ?_; rintro e w' ⟨rfl, hw⟩; subst w')
        | (go_at_call 43; refine hC.mono ?_; rintro e w1 ⟨rfl, hB1⟩; obtain ⟨x1, x2, x3, x4, x5, x6⟩ := HK.out w1 hB1; replace x5 := Hid.mk x5))
      go_ret2
      exact ⟨rfl, bT B S G M pb σ.xs, ⟨S, G, M, pb, x5.out.symm, x4⟩, x6, fun x hx => .inl hx⟩
    | none =>
      rw [hc] at hC
      simp only [Option.map_none, ptr] at hC
      cases ho : leastO σ.ag σ.tk with
      | none =>
        obtain ⟨e1, e2, e3⟩ := mk_full hs hc ho
        obtain ⟨t1, t2, t3, t4⟩ := take_none ho
        rw [e1, e2, e3]
        have HT : ∀ W, Below w.heap.size w W → Calls Tryd.prog 44 #[.pointer (some ⟨S, 0, none⟩)] W fun e w' => e = .returned (.tuple #[.int .i64 0, .int .i64 3]) ∧ SlQ w' S G N σ.ag σ.tk ∧ But [S, G] W w' := fun W hB => by
          have := take_any (hm.below hB).s (hV.on hB).t
          rw [t1, t2, t3, t4] at this
          exact this
        have HC : ∀ W, Below w.heap.size w W → W.cell? ⟨B, 0, none⟩ = some (.pointer (some ⟨S, 0, none⟩)) := fun W hB => (hm.below hB).c0
        have HS : Hid (∀ W W', Below w.heap.size w W → SlQ W' S G N σ.ag σ.tk → But [S, G] W W' → TM W' B S G M N pb σ) := fun W W' hB hs hb => by
          have hW := hm.below hB
          obtain ⟨a1, a2, a3, a4, a5, a6, hap, hnd⟩ := hW.apart
          exact ⟨(hb.block B (hW.lt (by simp [bT])) (by simp; exact ⟨a1, a2⟩)).trans hW.b, hs, hW.m.but hb (by simp; exact ⟨Ne.symm a5, Ne.symm a6⟩), fun a ha => (hW.a a ha).but hb (by obtain ⟨n1, n2, n3, n4⟩ := hap a ha; simp; exact ⟨n2, n3⟩), hW.nd, hW.ok⟩
        clear e1 e2 e3 t1 t2 t3 t4 ho hc hs
        go_enter Tryd.func19, Tryd.ntmps19
        go_wp2_with (first
          | (go_at_call 40; refine hM.mono ?_; rintro e w' ⟨rfl, hw⟩; subst w')
          | (go_at_call 43; refine hC.mono ?_; rintro e w1 ⟨rfl, hB1⟩; have x1 := HC w1 hB1)
          | (go_at_call 44; refine (HT w1 hB1).mono ?_; rintro e w2 ⟨rfl, hs2, hb2⟩))
        go_ret2
        exact ⟨rfl, _, ⟨S, G, M, pb, rfl, HS.out _ _ hB1 hs2 hb2⟩, (But.of_below hB1).trans (hb2.mono (fun x hx => by simp [bT] at hx ⊢; rcases hx with rfl | rfl <;> simp)), fun x hx => .inl hx⟩
      | some j =>
        obtain ⟨e1, e2, e3⟩ := mk_new hs hc ho
        obtain ⟨t0, tv, tr, tok⟩ := hm.ok.take ho
        rw [e1, e2, e3]
        have HT : ∀ W, Below w.heap.size w W → Calls Tryd.prog 44 #[.pointer (some ⟨S, 0, none⟩)] W fun e w' => e = .returned (.tuple #[.int .i64 (takeI σ.ag σ.tk), .int .i64 0]) ∧ SlQ w' S G N (takeA σ.ag σ.tk) (takeT σ.ag σ.tk) ∧ But [S, G] W w' := fun W hB => by
          have := take_any (hm.below hB).s (hV.on hB).t
          rw [t0] at this
          exact this
        rw [t0]
        have tok := tok sp
        have hnew : ∀ b ∈ σ.xs, b.id ≠ takeI σ.ag σ.tk := fun b hb e => by
          have := (hm.ok.live b.id).2 ⟨b, hb, rfl⟩
          rw [e, tv] at this
          cases this
        have hi : In64 (takeI σ.ag σ.tk) := ⟨by omega, by omega⟩
        generalize takeI σ.ag σ.tk = id at *
        generalize takeA σ.ag σ.tk = ag1 at *
        generalize takeT σ.ag σ.tk = tk1 at *
        have hf : fB pb σ.xs id = none := by unfold fB; rw [fnd_not hnew]; rfl
        have hlen : σ.xs.length < maxLen := by
          have := hm.ok.len
          have := hm.ok.n4
          unfold maxLen
          omega
        have HC : ∀ W, Below w.heap.size w W → W.cell? ⟨B, 0, none⟩ = some (.pointer (some ⟨S, 0, none⟩)) := fun W hB => (hm.below hB).c0
        have HK : ∀ W W', Below w.heap.size w W → But [S, G] W W' → W'.cell? ⟨B, 1, none⟩ = some (.map (some M)) ∧ PM (W'.alloc (.cells (acA (newA id sp)) 44)) M σ.xs.length (fB pb σ.xs) := fun W W' hB hb => by
          have hW := hm.below hB
          obtain ⟨a1, a2, a3, a4, a5, a6, hap, hnd⟩ := hW.apart
          exact ⟨hb.cell' hW.c1 (by simp; exact ⟨a1, a2⟩), (hW.m.but hb (by simp; exact ⟨Ne.symm a5, Ne.symm a6⟩)).but ((But.refl [] W').alloc _) (by simp)⟩
        have HN : Hid (∀ W w1 w3, Below w.heap.size w W → SlQ w1 S G N ag1 tk1 → But [S, G] W w1 → PM w3 M (σ.xs.length + 1) (fun j => if j = id then some w1.heap.size else fB pb σ.xs j) → But [M] (w1.alloc (.cells (acA (newA id sp)) 44)) w3 → ∃ T', TQ w3 B T' N ⟨ag1, tk1, insA (newA id sp) σ.xs⟩ ∧ Step (bT B S G M pb σ.xs) w T' w3) := fun W w1 w3 hB k1 k2 k3 k4 => by
          obtain ⟨pb', q1, q2⟩ := (hm.below hB).new (n := newA id sp) k1 k2 hnew k3 k4 tok
          exact ⟨_, ⟨S, G, M, pb', rfl, q1⟩, (Step.keep (.of_below hB)).trans q2⟩
        clear e1 e2 e3 t0 tv tr tok ho hc hs hnew
        rw [acA_new] at HK HN
        go_enter Tryd.func19, Tryd.ntmps19
        go_wp2_with (first
          | (go_at_call 40; refine hM.mono ?_; rintro e w' ⟨rfl, hw⟩; subst w')
          | (go_at_call 43; refine hC.mono ?_; rintro e w1 ⟨rfl, hB1⟩; have x1 := HC w1 hB1)
          | (go_at_call 44; refine (HT w1 hB1).mono ?_; rintro e w2 ⟨rfl, hs2, hb2⟩; obtain ⟨x2, x3⟩ := HK w1 w2 hB1 hb2)
          | (at_mapUpdate; refine wpList_storeP _ rfl _ _ _ rfl M _ _ rfl x3 id w2.heap.size rfl rfl hi hf hlen ?_; intro w3 hm3 hb3)
          | go_in)
        go_ret2
        exact ⟨rfl, HN.out _ _ _ hB1 hs2 hb2 hm3 hb3⟩

theorem tnew_none (m : Int) (hm : m < 1 ∨ 4096 < m) (w : World) : Calls Tryd.prog 9 #[.int .i64 m] w fun e w' => e = .returned (.pointer none) ∧ w' = w := by
  have hN := new_none m hm w
  go_enter Tryd.func9, Tryd.ntmps9
  go_wp2_with (go_at_call 29; refine hN.mono ?_; rintro e w' ⟨rfl, hw⟩; subst w')
  go_ret
  exact ⟨rfl, rfl⟩
set_option maxHeartbeats 1000000 in
theorem tnew_some (n : Nat) (h1 : 1 ≤ n) (h2 : n ≤ 4096) (w : World) :
    Calls Tryd.prog 9 #[.int .i64 n] w fun e w' => ∃ B T, e = .returned (.pointer (some ⟨B, 0, none⟩)) ∧ TQ w' B T n ⟨List.replicate n 0, List.replicate n false, []⟩ ∧ Step [] w T w' := by
  have hN := new_some n h1 h2 w
  have hmm := @run_makeMap Tryd.prog
  have HF : Hid (∀ w1, SlQ w1 (w.heap.size + 1) w.heap.size n (List.replicate n 0) (List.replicate n false) → Below w.heap.size w w1 → ∃ T, TQ ((w1.alloc (.map #[] 0)).alloc (.cells #[.pointer (some ⟨w.heap.size + 1, 0, none⟩), .map (some w1.heap.size)] 67)) (w1.heap.size + 1) T n ⟨List.replicate n 0, List.replicate n false, []⟩ ∧ Step [] w T ((w1.alloc (.map #[] 0)).alloc (.cells #[.pointer (some ⟨w.heap.size + 1, 0, none⟩), .map (some w1.heap.size)] 67))) := fun w1 hs hB => by
    obtain ⟨l1, l2, _⟩ := hs.lts
    have hl := hB.size
    have b1 : But [] w1 (w1.alloc (.map #[] 0)) := (But.refl [] w1).alloc _
    have b2 : But [] w1 ((w1.alloc (.map #[] 0)).alloc (.cells #[.pointer (some ⟨w.heap.size + 1, 0, none⟩), .map (some w1.heap.size)] 67)) := b1.alloc _
    refine ⟨_, ⟨w.heap.size + 1, w.heap.size, w1.heap.size, fun _ => 0, rfl, ⟨?_, hs.keep b2, ?_, fun a ha => by simp at ha, ?_, okk_new h2⟩⟩, (But.of_below hB).trans b2, fun x hx => .inr ?_⟩
    · have := heap_alloc_new (w1.alloc (.map #[] 0)) (.cells #[.pointer (some ⟨w.heap.size + 1, 0, none⟩), .map (some w1.heap.size)] 67)
      rw [World.size_alloc] at this
      exact this
    · exact (PM.made w1).but ((But.refl [] _).alloc _) (by simp)
    · simp [bT]
      omega
    · simp [bT] at hx
      omega
  have hn1 : Hid (1 ≤ n) := h1
  clear h1 h2
  go_enter Tryd.func9, Tryd.ntmps9
  go_wp2_with (go_at_call 29; refine hN.mono ?_; rintro e w1 ⟨rfl, hs1, -, hB1⟩)
  go_ret
  obtain ⟨T, q1, q2⟩ := HF.out w1 hs1 hB1
  exact ⟨_, T, rfl, q1, q2⟩
end
end Go.Proofs.YtjgclehghnmhnaaDoor
