/- What in tells, cases. -/
/- The document's out. -/
import Derived.Test.YtjgclehghnmhnaaDoorJ02LCores
namespace Go.Proofs.YtjgclehghnmhnaaDoor
open Go Go.RowKit

theorem fol1 (st : Int) : [(1 : Int)].contains st = folB 1 st := by simp [folB]; rfl
theorem fol2 (st : Int) : [(2 : Int)].contains st = folB 2 st := by simp [folB]; rfl
theorem fol4 (st : Int) : [(2 : Int)].contains st = folB 4 st := by simp [folB]; rfl
theorem fol8 (st : Int) : [(2 : Int)].contains st = folB 8 st := by simp [folB]; rfl
theorem fol16 (st : Int) : [(2 : Int), 3, 4].contains st = folB 16 st := by simp [folB]; rfl
theorem fol32 (st : Int) : [(1 : Int), 5].contains st = folB 32 st := by simp [folB]; rfl
theorem in_told {s : Nat} {sts : List Int} (hs : ∀ st, sts.contains st = folB s st) (σ : Sta) (i : Int) (chk : Ac → Int) (f : Ac → Ac) (z : Int) (v : Ac) (pe : Int) (τ : Sta)
    (hz : inE sts σ.xs i = z) (hv : getV σ.xs i = v) (hp : opE s chk σ.xs i = pe) (ht : opS s chk f σ i = τ) :
    ((z == 0) = false ∧ Hid (pe = z ∧ τ = σ)) ∨ (z = 0 ∧ Hid (v ∈ σ.xs) ∧ Hid (pe = chk v ∧ τ = if chk v = 0 then { σ with xs := insA (f v) σ.xs } else σ)) := by
  cases hf : fndA σ.xs i with
  | none =>
    unfold inE at hz
    unfold opE at hp
    rw [hf] at hz hp
    rw [opS_none hf] at ht
    subst hz hp ht
    exact .inl ⟨rfl, ⟨rfl, rfl⟩⟩
  | some a =>
    rw [(getV_some hf).1] at hv
    subst hv
    unfold inE at hz
    unfold opE at hp
    rw [hf] at hz hp
    replace hz : (if sts.contains a.st = true then (0 : Int) else 5) = z := hz
    replace hp : (if folB s a.st = true then chk a else 5) = pe := hp
    rw [hs] at hz
    by_cases hb : folB s a.st = true
    · rw [if_pos hb] at hz hp
      rw [opS_eq hf hb] at ht
      subst hz hp ht
      exact .inr ⟨rfl, (fnd_some hf).1, ⟨rfl, rfl⟩⟩
    · rw [if_neg hb] at hz hp
      rw [opS_no hf (by simpa using hb)] at ht
      subst hz hp ht
      exact .inl ⟨rfl, ⟨rfl, rfl⟩⟩
theorem len_upd {xs : List Ac} (hs : Srt xs) {a a' : Ac} (ha : a ∈ xs) (e : a'.id = a.id) : (insA a' xs).length = xs.length := by
  have := congrArg List.length (ids_insA (a := a') hs ⟨a, ha, e.symm⟩)
  simpa using this
theorem busy_ref {xs : List Ac} (hL : ∀ a ∈ xs, Lc a) {c : Int} (hc : 0 ≤ c) : busyB xs c = xs.any (fun a => a.st == 2 && a.co == c) := by
  unfold busyB
  rw [Bool.eq_iff_iff, List.any_eq_true, List.any_eq_true]
  constructor
  · rintro ⟨a, ha, h⟩
    have h' : a.co = c := by simpa using h
    refine ⟨a, ha, ?_⟩
    have := (hL a ha).off
    by_cases h2 : a.st = 2
    · simp [h2, h']
    · have := this h2; omega
  · rintro ⟨a, ha, h⟩
    refine ⟨a, ha, ?_⟩
    simp at h ⊢
    exact h.2

section
variable {w : World} {M N : Nat} {R : List Nat} {σ : Sta}
theorem RQ.facts (h : RQ w M R N σ) : σ.xs.length ≤ 4096 ∧ Srt σ.xs := by
  obtain ⟨S, A, K, v, rfl, hm⟩ := h
  exact ⟨hm.len, hm.srt⟩
theorem rin1 (h : RQ w M R N σ) (i x : Int) :
    Calls Tryd.prog 60 #[.pointer (some ⟨M, 0, none⟩), .int .i64 i, .slice (some ⟨w.heap.size, 0, none⟩) 1 1] (w.alloc (.cells #[.int .i64 x] 3)) fun e w' => e = .returned (.tuple #[.agg (acA (getV σ.xs i)), .int .i64 (inE [x] σ.xs i)]) ∧ Below w.heap.size w w' :=
  (rin_any (h.below ((Below.refl _ _).alloc (Nat.le_refl _) _)) i 1 (ir1 w x) (by simp)).mono (fun e w' ⟨e1, b⟩ => ⟨e1, ((Below.refl _ w).alloc (Nat.le_refl _) _).trans (b.mono (by simp))⟩)
theorem rin2 (h : RQ w M R N σ) (i x y : Int) :
    Calls Tryd.prog 60 #[.pointer (some ⟨M, 0, none⟩), .int .i64 i, .slice (some ⟨w.heap.size, 0, none⟩) 2 2] (w.alloc (.cells #[.int .i64 x, .int .i64 y] 3)) fun e w' => e = .returned (.tuple #[.agg (acA (getV σ.xs i)), .int .i64 (inE [x, y] σ.xs i)]) ∧ Below w.heap.size w w' :=
  (rin_any (h.below ((Below.refl _ _).alloc (Nat.le_refl _) _)) i 2 (ir2 w x y) (by simp)).mono (fun e w' ⟨e1, b⟩ => ⟨e1, ((Below.refl _ w).alloc (Nat.le_refl _) _).trans (b.mono (by simp))⟩)
theorem rin3 (h : RQ w M R N σ) (i x y z : Int) :
    Calls Tryd.prog 60 #[.pointer (some ⟨M, 0, none⟩), .int .i64 i, .slice (some ⟨w.heap.size, 0, none⟩) 3 3] (w.alloc (.cells #[.int .i64 x, .int .i64 y, .int .i64 z] 3)) fun e w' => e = .returned (.tuple #[.agg (acA (getV σ.xs i)), .int .i64 (inE [x, y, z] σ.xs i)]) ∧ Below w.heap.size w w' :=
  (rin_any (h.below ((Below.refl _ _).alloc (Nat.le_refl _) _)) i 3 (ir3 w x y z) (by simp)).mono (fun e w' ⟨e1, b⟩ => ⟨e1, ((Below.refl _ w).alloc (Nat.le_refl _) _).trans (b.mono (by simp))⟩)
/-- put, of one with the id of one that is there. -/
theorem rput_upd (h : RQ w M R N σ) {a : Ac} (ha : a ∈ σ.xs) (W : World) (a' : Ac) (e : a'.id = a.id) (b : Below w.heap.size w W) :
    Calls Tryd.prog 58 #[.pointer (some ⟨M, 0, none⟩), .agg (c16 a').toArray] W fun e w' => e = .returned (.tuple #[]) ∧ ∃ R', RQ w' M R' N { σ with xs := insA a' σ.xs } ∧ Step R w R' w' :=
  (rput_any (h.below b) a' (by rw [len_upd h.facts.2 ha e]; exact h.facts.1)).mono (fun e w' ⟨e1, R', q, s⟩ => ⟨e1, R', q, (Step.keep (.of_below b)).trans s⟩)
theorem RQ.back (h : RQ w M R N σ) {W : World} (b : Below w.heap.size w W) : ∃ R', RQ W M R' N σ ∧ Step R w R' W := ⟨R, h.below b, Step.keep (.of_below b)⟩
end
end Go.Proofs.YtjgclehghnmhnaaDoor
namespace Go.Proofs.YtjgclehghnmhnaaDoor
open Go Go.RowKit

theorem remA_cons (x : Ac) (r : List Ac) (i : Int) : remA (x :: r) i = (if x.id ≠ i then [x] else []) ++ remA r i := by
  unfold remA
  by_cases h : x.id = i
  · simp [h]
  · simp [h]
theorem remA_len (xs : List Ac) (i : Int) : (remA xs i).length ≤ xs.length := List.length_filter_le _ _
section
variable {w w' : World} {M S A K N : Nat} {v : Value} {R : List Nat} {σ : Sta}
/-- The slots have turned. -/
theorem RM.slots (h : RM w M S A K N v σ) {ag : List Nat} {tk : List Bool} (hs : RS w' S A K N ag tk) (hb : But [A, K] w w') : RM w' M S A K N v { σ with ag := ag, tk := tk } := by
  obtain ⟨a1, a2, a3, a4, a5, a6, a7⟩ := h.apart
  exact ⟨(hb.block M (h.lt (by simp [bR])) (by simp [a2, a3])).trans h.b, hs, h.h.put (fun k hk => hb.block k (h.lt (by simp [bR, hk])) (by
    simp only [List.mem_cons, List.not_mem_nil, or_false, not_or]
    exact ⟨fun e => a6 (e ▸ hk), fun e => a7 (e ▸ hk)⟩)), h.nd, h.len, h.srt⟩
set_option maxHeartbeats 4000000 in
set_option maxRecDepth 100000 in
theorem rout_rm (hm : RM w M S A K N v σ) (i : Int) (hi : i ≤ 9223372036854775807) :
    Calls Tryd.prog 61 #[.pointer (some ⟨M, 0, none⟩), .int .i64 i] w fun e w' => e = .returned (.tuple #[]) ∧ ∃ v', RM w' M S A K N v' (endS σ i) ∧ Step (bR M S A K v) w (bR M S A K v') w' ∧ But [M, K] w w' := by
  have hl := hm.len
  have hlr : (remA σ.xs i).length ≤ 4096 := Nat.le_trans (remA_len _ _) hl
  have HFR : Hid (∀ W v', Below w.heap.size w W → OwA 47 W w.heap.size v' (remA σ.xs i) → RM (W.setCell ⟨M, 1, none⟩ v') M S A K N v' { σ with xs := remA σ.xs i } ∧ Step (bR M S A K v) w (bR M S A K v') (W.setCell ⟨M, 1, none⟩ v')) := fun W v' hB ho => ⟨(hm.fresh hB ho hlr (remA_srt hm.srt i)).1, (hm.fresh hB ho hlr (remA_srt hm.srt i)).2.1⟩
  obtain ⟨sl, c, rfl, he⟩ := hm.shape
  have c1 := hm.c1
  have HM : ∀ W, Below w.heap.size w W → W.cell? ⟨M, 1, none⟩ = some (.slice sl σ.xs.length c) ∧ W.frozen? ⟨M, 1, none⟩ = false := fun W hB => ⟨(hm.below hB).c1, (hm.below hB).fb 1⟩
  obtain ⟨n, hN⟩ : ∃ n, Hid (σ.xs.length = n) := ⟨_, rfl⟩
  have hn' : n ≤ 4096 := by rw [← hN.out]; exact hl
  rw [hN.out] at c1 HM
  clear hl hm
  go_enter Tryd.func61, Tryd.ntmps61
  go_upto_region 2 with fail
  go_loopw [4, 12, 6] (fun s x _ wr => ∃ (j : Nat) (out : List Ac), j ≤ n ∧ x = .int .i64 j ∧ OwA 47 wr w.heap.size s out ∧ out ++ remA (σ.xs.drop j) i = remA σ.xs i ∧ Below w.heap.size w wr) (fun _ x _ _ => 4096 - (intOf x).toNat)
  case atStart => exact ⟨0, [], Nat.zero_le _, rfl, OwA.nil _ _, rfl, Below.refl _ _⟩
  case round =>
    obtain ⟨j, out, hj, rfl, ho, heq, hb⟩ := hrel
    have HQ := Hid.mk heq
    have hol : out.length ≤ 4096 := by
      have e := congrArg List.length heq
      rw [List.length_append] at e
      omega
    clear heq
    by_cases hlt : j < n
    · have hjx : j < σ.xs.length := by rw [hN.out]; exact hlt
      have hq := HQ.out
      rw [ac_drop hjx, remA_cons] at hq
      obtain ⟨b, o, rfl, hc⟩ := he.below hb j hjx
      have hlt' : (j : Int) < (n : Int) := by omega
      have hxr : wr.rangeAt b (o + j * 16) (c16 (ac σ.xs j)) := hc
      have hz0 := Cel.new wr (acA zA) 47
      have hth := hz0.there
      have hcx : Cel ((wr.alloc (.cells (acA zA) 47)).setCells wr.heap.size 0 (c16 (ac σ.xs j))) wr.heap.size (acA (ac σ.xs j)) 47 := hz0.ac _
      have B1 : Below w.heap.size w ((wr.alloc (.cells (acA zA) 47)).setCells wr.heap.size 0 (c16 (ac σ.xs j))) := (hb.alloc hb.size (.cells (acA zA) 47)).trans ((But.setCells _ 0 _).below (by have := hb.size; simp; omega) (by simpa using hb.size))
      have ho1 : OwA 47 ((wr.alloc (.cells (acA zA) 47)).setCells wr.heap.size 0 (c16 (ac σ.xs j))) w.heap.size u4 out := (ho.below ((Below.refl _ wr).alloc (Nat.le_refl _) _)).put (fun k hk => (But.setCells _ 0 _).block k (by have := (ho.lt hk).2; simp; omega) (by have := (ho.lt hk).2; simp; omega))
      clear hc hjx hz0 ho
      generalize ac σ.xs j = x at *
      rw [zA_A] at *
      go_upto_region 3 with fail
      refine wp_region_lit ?_
      iterate 3 go_step
      refine wpList_load_mid rfl 47 (.tmp 14) rfl b (o + j * 16) rfl (c16 x) _ hxr Tryd.underlying47 rfl size16R ?_
      iterate 3 go_step
      refine wpList_store_mid rfl 47 (.tmp 6) (.tmp 15) rfl wr.heap.size 0 (c16 x).toArray rfl rfl hth size16R (c16_one _) ?_
      rw [show (c16 x).toArray.toList = c16 x from rfl]
      generalize (World.setCells _ wr.heap.size 0 (c16 x)) = w1 at *
      generalize wr.heap.size = X at *
      generalize (Value.agg (c16 x).toArray) = gx at *
      have hx1 : At16 w1 X 0 x := hcx.range
      have n0 : w1.cell? ⟨X, 0, none⟩ = some (.int .i64 x.id) := hcx.cell (j := 0) rfl
      have hol1 : out.length + 1 ≤ 100000 := by omega
      have oA := ho1.below ((Below.refl _ w1).alloc (Nat.le_refl _) (.cells (acA x) 47))
      have avA := av_one w1 x 47
      have BA : Below w.heap.size w (w1.alloc (.cells (acA x) 47)) := B1.alloc B1.size _
      have szA := BA.size
      clear hcx hth hxr hb
      by_cases hid : x.id = i
      · have hid' : (x.id == i) = true := by simpa using hid
        have HQ1 : Hid (out ++ remA (σ.xs.drop (j + 1)) i = remA σ.xs i) := by
          show _ = _
          rw [← hq]
          simp [hid]
        clear hq hid
        go_wp2_with fail
        go_roundw
        case rel => exact ⟨j + 1, out, by omega, by simp, ho1, HQ1.out, B1⟩
        case measure =>
          simp [intOf]
          omega
      · have hid' : (x.id == i) = false := by simpa using hid
        have HQ1 : Hid ((out ++ [x]) ++ remA (σ.xs.drop (j + 1)) i = remA σ.xs i) := by
          show _ = _
          rw [← hq]
          simp [hid]
        clear hq
        go_upto_region 5 with fail
        refine wp_region_lit ?_
        iterate 3 go_step
        refine wpList_load_mid rfl 47 (.tmp 6) rfl X 0 rfl (c16 x) _ hx1 Tryd.underlying47 rfl size16R ?_
        refine wpList_bsR rfl (.tmp 21) rfl x rfl ?_
        refine wpList_appA tyR rfl _ _ rfl w.heap.size _ _ rfl oA _ _ _ [x] rfl rfl avA hol1 szA ?_
        intro v3 w3 o3 g3 s3
        have b3 := below_grown BA g3 oA szA
        go_wp2_with fail
        go_roundw
        case rel => exact ⟨j + 1, (out ++ [x]), by omega, by simp, o3, HQ1.out, b3⟩
        case measure =>
          simp [intOf]
          omega
    · obtain rfl : j = n := by omega
      have hq := HQ.out
      rw [List.drop_eq_nil_of_le (by rw [hN.out]; exact Nat.le_refl _)] at hq
      have HF : out = remA σ.xs i := by
        have : out ++ [] = remA σ.xs i := hq
        simpa using this
      subst HF
      obtain ⟨z1, z2⟩ := HM _ hb
      obtain ⟨q1, q2⟩ := HFR.out wr _ hb ho
      have hF := rfree_any q1.s i hi
      have bM : But [M] wr (wr.setCell ⟨M, 1, none⟩ u4) := (But.refl _ wr).set (p := ⟨M, 1, none⟩) (by simp) _
      have hbM : But [M, K] w (wr.setCell ⟨M, 1, none⟩ u4) := (But.of_below hb : But [M, K] w wr).trans (bM.mono (by simp))
      have z3 : (wr.setCell ⟨M, 1, none⟩ u4).cell? ⟨M, 0, none⟩ = some (.pointer (some ⟨S, 0, none⟩)) := q1.c0
      have HE : Hid (∀ W, RS W S A K N σ.ag (freeT σ.ag σ.tk i) → But [K] (wr.setCell ⟨M, 1, none⟩ u4) W → RM W M S A K N u4 (endS σ i) ∧ Step (bR M S A K (.slice sl σ.xs.length c)) w (bR M S A K u4) W ∧ But [M, K] w W) := fun W hs hb => by
        have b2 : But [A, K] (wr.setCell ⟨M, 1, none⟩ u4) W := hb.mono (by simp)
        exact ⟨q1.slots hs b2, q2.trans (Step.same (hb.mono (by simp [bR]))), hbM.trans (hb.mono (by simp))⟩
      clear hq HQ q1 q2 hbM bM HFR HM
      obtain ⟨va, vc, e3, -⟩ := ho.sl
      generalize (remA σ.xs i).length = m at e3
      subst e3
      go_wp2_with (go_at_call 71; (with_reducible refine hF.mono ?_); rintro e w3 ⟨rfl, s3, b3⟩)
      go_end0
      obtain ⟨y1, y2, y3⟩ := HE.out w3 s3 b3
      exact ⟨rfl, _, y1, y2, y3⟩
theorem rout_any (h : RQ w M R N σ) (i : Int) (hi : i ≤ 9223372036854775807) :
    Calls Tryd.prog 61 #[.pointer (some ⟨M, 0, none⟩), .int .i64 i] w fun e w' => e = .returned (.tuple #[]) ∧ ∃ R', RQ w' M R' N (endS σ i) ∧ Step R w R' w' := by
  obtain ⟨S, A, K, v, rfl, hm⟩ := h
  exact (rout_rm hm i hi).mono (fun e w' ⟨e1, v', q, s, _⟩ => ⟨e1, _, ⟨S, A, K, v', rfl, q⟩, s⟩)
end
end Go.Proofs.YtjgclehghnmhnaaDoor
