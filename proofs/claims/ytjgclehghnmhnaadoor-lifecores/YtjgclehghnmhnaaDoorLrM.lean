/- The document's table in memory; find, Get, Count. -/
import Derived.Test.YtjgclehghnmhnaaDoorLfH
import Derived.Test.YtjgclehghnmhnaaDoorSRefT
namespace Go.Proofs.YtjgclehghnmhnaaDoor
open Go Go.RowKit

/-- Its blocks. -/
def bR (M S A K : Nat) (v : Value) : List Nat := M :: S :: A :: K :: v.ownBlock.toList
structure RM (w : World) (M S A K N : Nat) (v : Value) (σ : Sta) : Prop where
  b : w.heap[M]? = some (.cells #[.pointer (some ⟨S, 0, none⟩), v] 41 (0, 0))
  s : RS w S A K N σ.ag σ.tk
  h : OwA 47 w 0 v σ.xs
  nd : (bR M S A K v).Nodup
  len : σ.xs.length ≤ 4096
  srt : Srt σ.xs
section
variable {w w' w2 : World} {M S A K N : Nat} {v v' : Value} {σ : Sta}
theorem bR_out {x : Nat} (h : x ∈ bR M S A K v) : x = M ∨ x = S ∨ x = A ∨ x = K ∨ v.ownBlock = some x := by
  simp [bR] at h
  exact h
theorem RM.lt (h : RM w M S A K N v σ) {x : Nat} (hx : x ∈ bR M S A K v) : x < w.heap.size := by
  rcases bR_out hx with rfl | rfl | rfl | rfl | hx
  · exact (Array.getElem?_eq_some_iff.1 h.b).1
  · exact h.s.ltM
  · exact h.s.a.lt
  · exact h.s.t.lt
  · exact (h.h.lt hx).2
theorem RM.apart (h : RM w M S A K N v σ) : M ≠ S ∧ M ≠ A ∧ M ≠ K ∧ v.ownBlock ≠ some M ∧ v.ownBlock ≠ some S ∧ v.ownBlock ≠ some A ∧ v.ownBlock ≠ some K := by
  have hn := h.nd
  unfold bR at hn
  simp only [List.nodup_cons, List.mem_cons, not_or, Option.mem_toList] at hn
  obtain ⟨⟨a1, a2, a3, a4⟩, ⟨b1, b2, b3⟩, ⟨c1, c2⟩, d, e⟩ := hn
  exact ⟨a1, a2, a3, fun e => a4 e, fun e => b3 e, fun e => c2 e, fun e => d e⟩
theorem RM.but {T : List Nat} (h : RM w M S A K N v σ) (hb : But T w w') (hT : Disj (bR M S A K v) T) : RM w' M S A K N v σ :=
  ⟨(hb.block M (h.lt (by simp [bR])) (hT _ (by simp [bR]))).trans h.b, h.s.but hb (hT _ (by simp [bR])) (hT _ (by simp [bR])) (hT _ (by simp [bR])), h.h.put (fun k hk => hb.block k (h.lt (by simp [bR, hk])) (hT _ (by simp [bR, hk]))), h.nd, h.len, h.srt⟩
theorem RM.keep (h : RM w M S A K N v σ) (hb : But [] w w') : RM w' M S A K N v σ := h.but hb (by simp [Disj])
theorem RM.below (h : RM w M S A K N v σ) (hb : Below w.heap.size w w') : RM w' M S A K N v σ := h.keep (.of_below hb)
theorem RM.c0 (h : RM w M S A K N v σ) : w.cell? ⟨M, 0, none⟩ = some (.pointer (some ⟨S, 0, none⟩)) := by simp [World.cell?, h.b]
theorem RM.c1 (h : RM w M S A K N v σ) : w.cell? ⟨M, 1, none⟩ = some v := by simp [World.cell?, h.b]
theorem RM.fb (h : RM w M S A K N v σ) (j : Nat) : w.frozen? ⟨M, j, none⟩ = false := by simp [World.frozen?, h.b]
theorem RM.shape (h : RM w M S A K N v σ) : ∃ a c, v = .slice a σ.xs.length c ∧ AV w a σ.xs := by
  obtain ⟨a, c, e, h1, h2, _⟩ := h.h.sl
  exact ⟨a, c, e, h2⟩
/-- Another row, all new. -/
theorem RM.fresh (h : RM w M S A K N v σ) {ys : List Ac} (hb : Below w.heap.size w w2) (ho : OwA 47 w2 w.heap.size v' ys) (hl : ys.length ≤ 4096) (hs : Srt ys) :
    RM (w2.setCell ⟨M, 1, none⟩ v') M S A K N v' { σ with xs := ys } ∧ Step (bR M S A K v) w (bR M S A K v') (w2.setCell ⟨M, 1, none⟩ v') ∧ w2.cell? ⟨M, 1, none⟩ = some v ∧ w2.frozen? ⟨M, 1, none⟩ = false := by
  have h2 := h.below hb
  obtain ⟨a1, a2, a3, a4, a5, a6, a7⟩ := h.apart
  have nb : ∀ x, v'.ownBlock = some x → w.heap.size ≤ x := fun x hx => (ho.lt hx).1
  have lt : ∀ x ∈ bR M S A K v, x < w.heap.size := fun x hx => h.lt hx
  have lM := lt M (by simp [bR])
  have lS := lt S (by simp [bR])
  have lA := lt A (by simp [bR])
  have lK := lt K (by simp [bR])
  have bM : But [M] w2 (w2.setCell ⟨M, 1, none⟩ v') := (But.refl _ w2).set (p := ⟨M, 1, none⟩) (by simp) _
  refine ⟨⟨?_, h2.s.but bM (by simpa using Ne.symm a1) (by simpa using Ne.symm a2) (by simpa using Ne.symm a3), (ho.lower (Nat.zero_le _)).put (fun x hx => Below.heap_setCell w2 ⟨M, 1, none⟩ _ x (fun e => by
    have := nb x hx
    have e' : x = M := e
    omega)), ?_, hl, hs⟩, ⟨(But.of_below hb).set (p := ⟨M, 1, none⟩) (by simp [bR]) _, fun x hx => ?_⟩, h2.c1, h2.fb 1⟩
  · have := heap_setCell_same w2 M 1 _ 41 v' h2.b
    rw [this]
    simp
  · have hn := h.nd
    unfold bR at hn ⊢
    simp only [List.nodup_cons, List.mem_cons, not_or, Option.mem_toList] at hn ⊢
    obtain ⟨⟨x1, x2, x3, _⟩, ⟨y1, y2, _⟩, ⟨z1, _⟩, _, _⟩ := hn
    refine ⟨⟨x1, x2, x3, fun e => ?_⟩, ⟨y1, y2, fun e => ?_⟩, ⟨z1, fun e => ?_⟩, fun e => ?_, ?_⟩
    · have := nb _ e; omega
    · have := nb _ e; omega
    · have := nb _ e; omega
    · have := nb _ e; omega
    · cases v'.ownBlock <;> simp
  · rcases bR_out hx with rfl | rfl | rfl | rfl | hx
    · exact .inl (by simp [bR])
    · exact .inl (by simp [bR])
    · exact .inl (by simp [bR])
    · exact .inl (by simp [bR])
    · exact .inr (nb x hx)
end
/-- The document's table at M, with blocks R. -/
def RQ (w : World) (M : Nat) (R : List Nat) (N : Nat) (σ : Sta) : Prop := ∃ S A K v, R = bR M S A K v ∧ RM w M S A K N v σ
section
variable {w w' : World} {M N : Nat} {R : List Nat} {σ : Sta}
theorem RQ.but {T : List Nat} (h : RQ w M R N σ) (hb : But T w w') (hT : Disj R T) : RQ w' M R N σ := by
  obtain ⟨S, A, K, v, rfl, hm⟩ := h
  exact ⟨S, A, K, v, rfl, hm.but hb hT⟩
theorem RQ.keep (h : RQ w M R N σ) (hb : But [] w w') : RQ w' M R N σ := h.but hb (by simp [Disj])
theorem RQ.below (h : RQ w M R N σ) (hb : Below w.heap.size w w') : RQ w' M R N σ := h.keep (.of_below hb)
theorem RQ.lt (h : RQ w M R N σ) : ∀ x ∈ R, x < w.heap.size := by
  obtain ⟨S, A, K, v, rfl, hm⟩ := h
  exact fun x hx => hm.lt hx
end

/-- Where one is. -/
def Fnd (xs : List Ac) (i z : Int) : Prop := (z = -1 ∧ fndA xs i = none) ∨ ∃ j : Nat, z = j ∧ j < xs.length ∧ fndA xs i = some (ac xs j)
theorem fnd_first {xs : List Ac} {i : Int} {j : Nat} (hs : Srt xs) (hj : j < xs.length) (h : (ac xs j).id = i) : fndA xs i = some (ac xs j) := h ▸ fnd_mem hs (ac_mem hj)
theorem results_acR {fn : Func} {p q : Tmp} (h : fn.results = #[.cell p 47, .tmp q]) (tmps : Array Value) (w : World) (g : Nat) (e : Ac) (b : Value) (hp : tmps.getD p undef = .pointer (some ⟨g, 0, none⟩)) (hq : tmps.getD q undef = b) (hc : w.rangeAt g 0 (c16 e)) : (results fn tmps).run Tryd.prog w = .ok (.tuple #[.agg (acA e), b]) w := by
  have hp' : tmps[p]?.getD undef = .pointer (some ⟨g, 0, none⟩) := by simpa using hp
  have hq' : tmps[q]?.getD undef = b := by simpa using hq
  have hl := run_loadVar_mid (P := Tryd.prog) w g 0 47 (c16 e) _ hc Tryd.underlying47 rfl size16R
  simp [results, h, hp', hq', asAddr, hl]
  rfl

section
variable {w : World} {M N : Nat} {R : List Nat} {σ : Sta}
set_option maxHeartbeats 2000000 in
set_option maxRecDepth 100000 in
theorem rfind_any (h : RQ w M R N σ) (i : Int) :
    Calls Tryd.prog 42 #[.pointer (some ⟨M, 0, none⟩), .int .i64 i] w fun e w' => ∃ z, e = .returned (.int .i64 z) ∧ Fnd σ.xs i z ∧ Below w.heap.size w w' := by
  obtain ⟨S, A, K, v, rfl, hm⟩ := h
  have hl := hm.len
  have hsr := hm.srt
  obtain ⟨sl, c, rfl, he⟩ := hm.shape
  have c1 := hm.c1
  obtain ⟨n, hN⟩ : ∃ n, Hid (σ.xs.length = n) := ⟨_, rfl⟩
  have hn' : n ≤ 4096 := by rw [← hN.out]; exact hl
  rw [hN.out] at c1
  clear hl hm
  go_enter Tryd.func42, Tryd.ntmps42
  go_wp2_with fail
  go_loopw [12, 5, 6] (fun v _ _ wr => ∃ j : Nat, j ≤ n ∧ v = .int .i64 j ∧ (∀ k, k < j → (ac σ.xs k).id ≠ i) ∧ Below w.heap.size w wr) (fun v _ _ _ => 4096 - (intOf v).toNat)
  case atStart => exact ⟨0, Nat.zero_le _, rfl, fun k hk => by omega, Below.refl _ _⟩
  case round =>
    obtain ⟨j, hj, rfl, hall, hb⟩ := hrel
    have HALL := Hid.mk hall
    clear hall
    by_cases hlt : j < n
    · have hjx : j < σ.xs.length := by rw [hN.out]; exact hlt
      obtain ⟨b, o, rfl, hc⟩ := he.below hb j hjx
      obtain ⟨c0, c1, c2, c3, c4, c5, c6, c7, c8, c9, c10, c11, c12, c13, c14, c15⟩ := hc.cells
      have hlt' : (j : Int) < (n : Int) := by omega
      have B1 : Below w.heap.size w (wr.alloc (.cells (acA (ac σ.xs j)) 47)) := hb.alloc hb.size _
      have hn5 := (at16_new wr (ac σ.xs j) 47).cells
      clear hc
      by_cases hp : (ac σ.xs j).id = i
      · have hp' : ((ac σ.xs j).id == i) = true := by simpa using hp
        have HF : Hid (Fnd σ.xs i (j : Int)) := .inr ⟨j, rfl, hjx, fnd_first hsr hjx hp⟩
        clear hp
        unfold acA at *
        generalize ac σ.xs j = x at *
        obtain ⟨n0, n1, n2, n3, n4, n5, n6, n7, n8, n9, n10, n11, n12, n13, n14, n15⟩ := hn5
        go_wp2_with fail
        go_ret
        exact ⟨_, rfl, HF.out, B1⟩
      · have hp' : ((ac σ.xs j).id == i) = false := by simpa using hp
        have HE : Hid (∀ k, k < j + 1 → (ac σ.xs k).id ≠ i) := fun k hk => by
          by_cases h : k = j
          · rw [h]; exact hp
          · exact HALL.out k (by omega)
        clear hp
        unfold acA at *
        generalize ac σ.xs j = x at *
        obtain ⟨n0, n1, n2, n3, n4, n5, n6, n7, n8, n9, n10, n11, n12, n13, n14, n15⟩ := hn5
        go_wp2_with fail
        go_roundw
        case rel => exact ⟨j + 1, by omega, by simp, HE.out, B1⟩
        case measure =>
          simp [intOf]
          omega
    · obtain rfl : j = n := by omega
      have HF : Hid (Fnd σ.xs i (-1)) := .inl ⟨rfl, fnd_not fun a ha => by
        obtain ⟨k, hk, rfl⟩ := List.mem_iff_getElem.1 ha
        have h1 := HALL.out k (by rw [← hN.out]; exact hk)
        rw [ac_of (List.getElem?_eq_getElem hk)] at h1
        exact h1⟩
      go_wp2_with fail
      go_ret
      exact ⟨_, rfl, HF.out, hb⟩

set_option maxHeartbeats 2000000 in
set_option maxRecDepth 100000 in
theorem rget_any (h : RQ w M R N σ) (i : Int) :
    Calls Tryd.prog 18 #[.pointer (some ⟨M, 0, none⟩), .int .i64 i] w fun e w' => e = .returned (.tuple #[.agg (acA (getV σ.xs i)), .bool (getB σ.xs i)]) ∧ Below w.heap.size w w' := by
  have ba : Below w.heap.size w (w.alloc (.cells (acA zA) 47)) := (Below.refl _ _).alloc (Nat.le_refl _) _
  have hF := rfind_any (h.below ba) i
  obtain ⟨S, A, K, v, rfl, hm⟩ := h
  have hl := hm.len
  obtain ⟨sl, c, rfl, he⟩ := hm.shape
  have HK : ∀ W, Below (w.alloc (.cells (acA zA) 47)).heap.size (w.alloc (.cells (acA zA) 47)) W → W.cell? ⟨M, 1, none⟩ = some (.slice sl σ.xs.length c) ∧ AV W sl σ.xs ∧ Cel W w.heap.size (acA zA) 47 ∧ Below w.heap.size w W := fun W b => ⟨((hm.below ba).below b).c1, (he.below ba).below b, (Cel.new w (acA zA) 47).below b, below2 ba ba.size b⟩
  have HG : ∀ z, Fnd σ.xs i z → (z < 0 ∧ getV σ.xs i = zA ∧ getB σ.xs i = false) ∨ ∃ j : Nat, z = j ∧ j < σ.xs.length ∧ getV σ.xs i = ac σ.xs j ∧ getB σ.xs i = true := fun z hz => by
    rcases hz with ⟨rfl, hz⟩ | ⟨j, rfl, hj, hz⟩
    · exact .inl ⟨by omega, by unfold getV; rw [hz]; rfl, by unfold getB; rw [hz]; rfl⟩
    · exact .inr ⟨j, rfl, hj, by unfold getV; rw [hz]; rfl, by unfold getB; rw [hz]; rfl⟩
  clear hm he ba
  rw [zA_A] at *
  go_enter Tryd.func18, Tryd.ntmps18
  go_upto_region 2 with (go_at_call 42; (with_reducible refine hF.mono ?_); rintro e w1 ⟨z, rfl, hz, b1⟩)
  obtain ⟨x1, x2, x3, x4⟩ := HK w1 b1
  have hth := Cel.there (a := zA) x3
  rcases HG z hz with ⟨hz0, e1, e2⟩ | ⟨j, rfl, hj, e1, e2⟩
  · have HE : Hid (getV σ.xs i = zA ∧ getB σ.xs i = false) := ⟨e1, e2⟩
    have hfin := (Cel.ac (a := zA) zA x3).range
    have hb2 : Below w.heap.size w (w1.setCells w.heap.size 0 (c16 zA)) := x4.trans ((But.setCells (c16 zA) 0 _).below x4.size (by simp))
    have hz1 : ¬ 0 ≤ z := by omega
    clear hz HG HK e1 e2 x1 x2 x3 x4
    go_upto_region 4 with fail
    refine wp_region_lit ?_
    iterate 3 go_step
    refine wpList_store_mid rfl 47 (.tmp 4) (.tmp 19) rfl w.heap.size 0 (c16 zA).toArray rfl rfl hth size16R (c16_one _) ?_
    rw [show (c16 zA).toArray.toList = c16 zA from rfl]
    generalize World.setCells _ w.heap.size 0 (c16 zA) = wf at *
    go_wp2_with fail
    exact bodyPost_ret (results_acR rfl _ _ w.heap.size zA (.bool false) rfl rfl hfin) rfl ⟨by rw [HE.out.1, HE.out.2], hb2⟩
  · have HE : Hid (getV σ.xs i = ac σ.xs j ∧ getB σ.xs i = true) := ⟨e1, e2⟩
    obtain ⟨b, o, rfl, hc⟩ := x2 j hj
    have hfin := (Cel.ac (a := zA) (ac σ.xs j) x3).range
    have hb2 : Below w.heap.size w (w1.setCells w.heap.size 0 (c16 (ac σ.xs j))) := x4.trans ((But.setCells (c16 (ac σ.xs j)) 0 _).below x4.size (by simp))
    have hz1 : (0 : Int) ≤ (j : Int) := by omega
    have hj' : (j : Int) < (σ.xs.length : Int) := by omega
    have hr : w1.rangeAt b (o + j * 16) (c16 (ac σ.xs j)) := hc
    clear hz HG HK e1 e2 x2 x3 x4 hj hc
    generalize ac σ.xs j = x at *
    generalize σ.xs.length = n at *
    go_upto_region 3 with fail
    refine wp_region_lit ?_
    iterate 18 go_step
    refine wpList_load_mid rfl 47 (.tmp 17) rfl b (o + j * 16) rfl (c16 x) _ hr Tryd.underlying47 rfl size16R ?_
    refine wpList_store_mid rfl 47 (.tmp 4) (.tmp 18) rfl w.heap.size 0 (c16 x).toArray rfl rfl hth size16R (c16_one _) ?_
    rw [show (c16 x).toArray.toList = c16 x from rfl]
    generalize World.setCells _ w.heap.size 0 (c16 x) = wf at *
    go_wp2_with fail
    exact bodyPost_ret (results_acR rfl _ _ w.heap.size x (.bool true) rfl rfl hfin) rfl ⟨by rw [HE.out.1, HE.out.2], hb2⟩
end
end Go.Proofs.YtjgclehghnmhnaaDoor
