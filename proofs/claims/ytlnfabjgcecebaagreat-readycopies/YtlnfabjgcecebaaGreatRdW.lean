/- The document's Waiting: those that wait, put in one by one. -/
import Derived.Test.YtlnfabjgcecebaaGreatRdJ
import Derived.Test.YtlnfabjgcecebaaGreatStMem
import Derived.BigQuiet
namespace Go.Proofs.YtlnfabjgcecebaaGreat.Rd
open Go Go.RowKit Go.Proofs.YtlnfabjgcecebaaGreat.Big Go.Proofs.YtlnfabjgcecebaaGreat.Str

/-- Ids of things. -/
def ids (t : List Hp.Th) : List Int := t.map (fun p => (p.1 : Int))
theorem ids_len (t : List Hp.Th) : (ids t).length = t.length := by simp [ids]
theorem ids_get {t : List Hp.Th} {i : Nat} {a : Hp.Th} (h : t[i]? = some a) : (ids t)[i]? = some (a.1 : Int) := by
  unfold ids
  rw [List.getElem?_map, h]
  rfl
theorem ids_ins (t : List Hp.Th) (m : Nat) (ps : Int) (p : Nat) : ids (t.take p ++ (m, ps) :: t.drop p) = (ids t).take p ++ (m : Int) :: (ids t).drop p := by
  simp [ids, List.map_take, List.map_drop]
theorem ahead_bef (ps : Int) (m : Nat) (a : Hp.Th) : aheadB ps (m : Int) a.2 (a.1 : Int) = Hp.befB (m, ps) a := by
  unfold aheadB Hp.befB
  simp
/-- Where the moving stops. -/
theorem stop_at {t : List Hp.Th} {m : Nat} {ps : Int} {p : Nat} (hs : Hp.Srt t) (hlt : ∀ a ∈ t, a.1 < m) (hp : p ≤ t.length) (h1 : ∀ a ∈ t.drop p, Hp.befB (m, ps) a = true) (h2 : p = 0 ∨ ∃ a, t[p - 1]? = some a ∧ Hp.befB (m, ps) a = false) :
    Hp.insq (m, ps) t = t.take p ++ (m, ps) :: t.drop p := by
  refine Hp.insq_at (fun j a hj ha => ?_) (fun a ha => ?_) hp
  · rcases h2 with rfl | ⟨b, hb, hbb⟩
    · omega
    · have hbm : b ∈ t := List.mem_of_getElem? hb
      have hlb : Hp.befB b (m, ps) = true := Hp.befB_of hbb (fun e => by have := hlt b hbm; rw [e] at this; exact absurd this (Nat.lt_irrefl m))
      by_cases e : j = p - 1
      · subst e
        rw [hb] at ha
        cases ha
        exact hlb
      · obtain ⟨hj1, rfl⟩ := List.getElem?_eq_some_iff.1 ha
        obtain ⟨hj2, rfl⟩ := List.getElem?_eq_some_iff.1 hb
        exact Hp.befB_tr (List.pairwise_iff_getElem.1 hs j (p - 1) hj1 hj2 (by omega)) hlb
  · have hm : a ∈ t.drop p := by
      obtain ⟨hp1, rfl⟩ := List.getElem?_eq_some_iff.1 ha
      rw [List.drop_eq_getElem_cons hp1]
      exact List.mem_cons_self
    exact Hp.befB_le (h1 a hm)
theorem below_set {n : Nat} {w W : World} (h : Below n w W) {p : Addr} (hp : n ≤ p.block) (u : Value) : Below n w (W.setCell p u) :=
  ⟨h.os, h.tape, h.output, by have := h.size; simpa [World.setCell] using this, fun k hk => (Below.heap_setCell _ _ _ _ (by omega)).trans (h.block k hk)⟩
/-- One number of a row is another one. -/
theorem RowI.set {w : World} {base g n c : Nat} {xs : List Int} (h : RowI w base (.slice (some ⟨g, 0, none⟩) n c) xs) (j : Nat) (y : Int) : RowI (w.setCell ⟨g, j, none⟩ (.int .i64 y)) base (.slice (some ⟨g, 0, none⟩) n c) (xs.set j y) := by
  unfold RowI at h ⊢
  rw [List.length_set, List.map_set]
  obtain ⟨_, h2⟩ := h
  refine ⟨by simp, ?_⟩
  rcases h2 with ⟨e, _⟩ | ⟨g', cap, cur, e, hb, hc, h3, h4, h5, h6⟩
  · cases e
  · simp only [Value.slice.injEq, Option.some.injEq, Addr.mk.injEq, and_true] at e
    obtain ⟨rfl, rfl, rfl⟩ := e
    refine .inr ⟨g, _, _, rfl, hb, heap_setCell_same w g j _ 3 (.int .i64 y) hc, h3, h4, by simpa using h5, ?_⟩
    rw [Array.toList_setIfInBounds, List.take_set, h6]
theorem RowI.open2 {w : World} {base g n c : Nat} {xs : List Int} (h : RowI w base (.slice (some ⟨g, 0, none⟩) n c) xs) : n = xs.length ∧ base ≤ g ∧ (∀ (j : Nat) x, xs[j]? = some x → w.cell? ⟨g, j, none⟩ = some (.int .i64 x)) ∧ ∀ j, w.frozen? ⟨g, j, none⟩ = false := by
  obtain ⟨a, c', e, _, _, _, hx⟩ := RowI.shape h
  simp only [Value.slice.injEq] at e
  obtain ⟨rfl, rfl, rfl⟩ := e
  refine ⟨rfl, (World.ownsRow.lt h g rfl).1, fun j x hj => ?_, fun j => ?_⟩
  · obtain ⟨g', e, hc⟩ := hx j x hj
    cases e
    exact hc
  · rcases h.2 with ⟨e, _⟩ | ⟨g', cap, cur, e, hb, hc, _⟩
    · cases e
    · cases e
      simp [World.frozen?, hc]
theorem set_ins (l : List Int) (k : Nat) (y z : Int) (h : k ≤ l.length) : (l.take k ++ y :: l.drop k).set k z = l.take k ++ z :: l.drop k := by
  rw [List.set_append_right _ _ (by rw [List.length_take]; omega)]
  have : k - (l.take k).length = 0 := by rw [List.length_take]; omega
  rw [this]
  rfl
theorem back_ins (l : List Int) (k : Nat) (y : Int) (hy : l[k]? = some y) : l.take (k + 1) ++ y :: l.drop (k + 1) = l.take k ++ y :: l.drop k := by
  obtain ⟨hk, e⟩ := List.getElem?_eq_some_iff.1 hy
  rw [List.take_add_one, hy, List.drop_eq_getElem_cons hk, e]
  simp
theorem below_drN (w : World) (k : Nat) : Below w.heap.size w (w.drewN k) := ⟨rfl, rfl, rfl, Nat.le_refl _, fun _ _ => rfl⟩
theorem qN_wait {L : List Rw} {m : Nat} (h : (rw L m).1 = 1) : qN L (m + 1) = Hp.insq (m, (rw L m).2.2.1) (qN L m) := by
  show (if _ then _ else _) = _
  rw [if_pos h]
theorem qN_skip {L : List Rw} {m : Nat} (h : (rw L m).1 ≠ 1) : qN L (m + 1) = qN L m := by
  show (if _ then _ else _) = _
  rw [if_neg h]

section
variable {w w' : World} {M G N : Nat} {σ : Qs}
set_option maxHeartbeats 4000000 in
set_option maxRecDepth 100000 in
theorem waiting_any (h : RQ w M G N σ) :
    Calls Tryz.prog 41 #[.pointer (some ⟨M, 0, none⟩)] w fun e w' => ∃ v, e = .returned v ∧ RowI w' w.heap.size v (ids (qL σ)) ∧ Below w.heap.size w w' := by
  obtain ⟨gc, h1, h2, c1⟩ := h.c1
  have hn := h.n2
  have HL : Hid (qL σ = qN σ.L N) := by unfold Hid qL; rw [h.len]
  have HR : Aside (∀ W, Below w.heap.size w W → RQ W M G N σ) := fun W hb => h.below hb
  have HMx : Hid (M < w.heap.size ∧ G < w.heap.size) := ⟨h.ltM, h.g.lt⟩
  clear h
  go_enter Tryz.func41, Tryz.ntmps41
  go_wp2_with fail
  go_loopw [12, 3, 4, 5, 6] (fun q p _ _ _ wr => ∃ k : Nat, k ≤ N ∧ q = .int .i64 k ∧ RowI wr w.heap.size p (ids (qN σ.L k)) ∧ Below w.heap.size w wr) (fun q _ _ _ _ _ => 4096 - (intOf q).toNat)
  case atStart => exact ⟨0, by omega, rfl, World.ownsRow_nil w w.heap.size 3 1, Below.refl _ _⟩
  case round =>
    obtain ⟨k, hk, rfl, hr, hB⟩ := hrel
    have hrs := HR.out wr hB
    by_cases hlt : k < N
    · have hlt' : (k : Int) < (N : Int) := by omega
      have hk0 : (0 : Int) ≤ (k : Int) := by omega
      have d0 := hrs.r0 hlt
      have d1 := hrs.r1 hlt
      have d2 := hrs.r2 hlt
      have d3 := hrs.r3 hlt
      by_cases hw : (rw σ.L k).1 = 1
      · rw [hw] at d0
        have HQ : Hid (qN σ.L (k + 1) = Hp.insq (k, (rw σ.L k).2.2.1) (qN σ.L k)) := qN_wait hw
        have HM : Hid (∀ a ∈ qN σ.L k, a.1 < k ∧ a.2 = (rw σ.L a.1).2.2.1) := fun a ha => ⟨(qN_mem ha).1, (qN_mem ha).2.2⟩
        have HI : Hid (∀ p, p ≤ (qN σ.L k).length → (∀ a ∈ (qN σ.L k).drop p, Hp.befB (k, (rw σ.L k).2.2.1) a = true) → (p = 0 ∨ ∃ a, (qN σ.L k)[p - 1]? = some a ∧ Hp.befB (k, (rw σ.L k).2.2.1) a = false) → (ids (qN σ.L k)).take p ++ (k : Int) :: (ids (qN σ.L k)).drop p = ids (qN σ.L (k + 1))) := fun p h1 h2 h3 => by
          rw [HQ.out, stop_at (qN_srt k) (fun a ha => (qN_mem ha).1) h1 h2 h3, ids_ins]
        have hl4 : (qN σ.L k).length ≤ 4096 := by have := qN_len (L := σ.L) k; omega
        clear HQ
        obtain ⟨l', hl'⟩ : ∃ l', ids (qN σ.L (k + 1)) = l' := ⟨_, rfl⟩
        rw [hl'] at HI
        replace hl' := Hid.mk hl'
        generalize qN σ.L k = t at *
        generalize (rw σ.L k).2.1 = tk at *
        generalize (rw σ.L k).2.2.1 = ps at *
        generalize (rw σ.L k).2.2.2 = pk at *
        clear hw
        obtain ⟨va, vc, rfl⟩ := own_shape hr
        rw [ids_len] at *
        have hr1 : ∀ o1 o2 : Obj, RowI ((wr.alloc o1).alloc o2) w.heap.size (.slice va t.length vc) (ids t) := fun o1 o2 => (hr.below ((Below.refl _ wr).alloc (Nat.le_refl _) o1)).below ((Below.refl _ _).alloc (Nat.le_refl _) o2)
        have hlow : ∀ x, (Value.slice va t.length vc).ownBlock = some x → w.heap.size ≤ x ∧ x < wr.heap.size := fun x e => World.ownsRow.lt hr x e
        have hBs := hB.size
        have hb1 : ∀ o1 o2 : Obj, Below w.heap.size w ((wr.alloc o1).alloc o2) := fun o1 o2 => (hB.alloc hB.size o1).alloc (by simp; omega) o2
        have hsz : ∀ o1 o2 : Obj, w.heap.size ≤ ((wr.alloc o1).alloc o2).heap.size := fun o1 o2 => by simp; omega
        have hX : ∀ o2 : Obj, ((wr.alloc (.cells #[.int .i64 1, .int .i64 tk, .int .i64 ps, .int .i64 pk] 57)).alloc o2).cell? ⟨wr.heap.size, 2, none⟩ = some (.int .i64 ps) := fun o2 => by simp [go_sem]
        have hXl : ∀ o1 o2 : Obj, wr.heap.size < ((wr.alloc o1).alloc o2).heap.size ∧ ((wr.alloc o1).alloc o2).heap.size = wr.heap.size + 2 := fun o1 o2 => by simp; omega
        have hX2 : ∀ (o2 : Obj) (w3 : World), ((wr.alloc (.cells #[.int .i64 1, .int .i64 tk, .int .i64 ps, .int .i64 pk] 57)).alloc o2).grownBy w3 (Value.slice va t.length vc).ownBlock → w3.cell? ⟨wr.heap.size, 2, none⟩ = some (.int .i64 ps) := fun o2 w3 hg => (World.cell?_of_block (hg.block wr.heap.size (hXl _ _).1 (fun e => by have := (hlow _ e.symm).2; omega))).trans (hX o2)
        clear hX hrs
        have hRd : ∀ o : Obj, Reads ((wr.alloc o).alloc (.cells #[.int .i64 (k : Int)] 3)) (some ⟨wr.heap.size + 1, 0, none⟩) 1 [(k : Int)] := fun o => by
          have := reads_one (wr.alloc o) (k : Int)
          rwa [World.size_alloc] at this
        have hMX : M < wr.heap.size ∧ G < wr.heap.size := ⟨by have := HMx.out.1; omega, by have := HMx.out.2; omega⟩
        go_wp2_with (first
          | (at_builtin; refine wpList_app1 rfl (.tmp 22) (.tmp 24) rfl w.heap.size _ (ids t) rfl (hr1 _ _) _ _ (k : Int) rfl (hRd _) (by rw [ids_len]; omega) (hsz _ _) ?_; intro v3 w3 hr3 hg3 ha3; have hB3 := (hb1 _ _).trans (grown_below hg3 (hsz _ _) (fun x e => (hlow x e).1)); have hX3 := hX2 _ _ hg3; rw [(hXl _ _).2] at ha3))
        obtain ⟨g, vc3, rfl⟩ : ∃ g c, v3 = .slice (some ⟨g, 0, none⟩) (t.length + 1) c := by
          rcases hr3.2 with ⟨_, h0⟩ | ⟨g, cap, cur, e, _⟩
          · rw [List.length_append, ids_len] at h0
            simp at h0
          · exact ⟨g, cap, by rw [e, List.length_append, ids_len]; rfl⟩
        have hbg := (World.ownsRow.lt hr3 g rfl).1
        have hgX : g ≠ wr.heap.size := fun e => by
          rcases ha3 with h | h
          · have := (hlow g h.symm).2
            omega
          · have h' : some g = some (wr.heap.size + 2) := h
            have := Option.some.inj h'
            omega
        replace hr3 : RowI w3 w.heap.size (.slice (some ⟨g, 0, none⟩) (t.length + 1) vc3) ((ids t).take t.length ++ (k : Int) :: (ids t).drop t.length) := by
          have e1 : (ids t).take t.length = ids t := List.take_of_length_le (by rw [ids_len]; omega)
          have e2 : (ids t).drop t.length = [] := List.drop_eq_nil_of_le (by rw [ids_len]; omega)
          rw [e1, e2]
          exact hr3
        clear ha3 hg3 hr hB hb1 hr1 hlow hsz hXl hX2 hRd d0 d1 d2 d3
        obtain ⟨X, hXX⟩ : ∃ X, wr.heap.size = X := ⟨_, rfl⟩
        rw [hXX] at hX3 hgX ⊢
        replace hXX := Hid.mk hXX
        go_loopw [6] (fun q wx => ∃ (p : Nat) (y : Int), p ≤ t.length ∧ q = .int .i64 p ∧ RowI wx w.heap.size (.slice (some ⟨g, 0, none⟩) (t.length + 1) vc3) ((ids t).take p ++ y :: (ids t).drop p) ∧ Hid (∀ a ∈ t.drop p, Hp.befB (k, ps) a = true) ∧ Below w.heap.size w wx ∧ wx.cell? ⟨X, 2, none⟩ = some (.int .i64 ps)) (fun q _ => (intOf q).toNat)
        case atStart => exact ⟨t.length, k, Nat.le_refl _, rfl, hr3, Hid.mk (fun a ha => by rw [List.drop_length] at ha; cases ha), hB3, hX3⟩
        case round =>
          clear hr3 hB3 hX3
          obtain ⟨p, y, hp, rfl, hr, hz, hB, hX⟩ := hrel
          have hrs := HR.out wr hB
          obtain ⟨gc2, -, -, c1⟩ := hrs.c1
          obtain ⟨-, -, hcl, hfr⟩ := RowI.open2 hr
          have hp' : p ≤ (ids t).length := by rw [ids_len]; exact hp
          have hcp := hcl p y (by rw [List.getElem?_append_right (by rw [List.length_take]; omega), List.length_take]; simp [Nat.min_eq_left hp'])
          have hfp := hfr p
          have hp0 : (0 : Int) ≤ (p : Int) := by omega
          have hp1 : (p : Int) < ((t.length : Int) + 1) := by omega
          have hgN : Below w.heap.size w wr := hB
          cases p with
          | zero =>
            have hset : ∀ nq, RowI ((wr.drewN nq).setCell ⟨g, 0, none⟩ (.int .i64 (k : Int))) w.heap.size (.slice (some ⟨g, 0, none⟩) (t.length + 1) vc3) l' := fun nq => by
              have h := RowI.set (hr.below (below_drN wr nq)) 0 (k : Int)
              rw [set_ins (ids t) 0 y _ hp', HI.out 0 (by omega) hz.out (.inl rfl)] at h
              exact h
            have hBs : ∀ nq, Below w.heap.size w ((wr.drewN nq).setCell ⟨g, 0, none⟩ (.int .i64 (k : Int))) := fun nq => below_set (hB.trans ((below_drN wr nq).mono hB.size)) (p := ⟨g, _, none⟩) hbg _
            clear hcl hfr hr hrs
            go_wp2_with fail
            go_quiet (fail)
            go_wp2_with fail
            go_roundw
            case rel => exact ⟨k + 1, by omega, by simp, by rw [hl'.out]; exact hset _, hBs _⟩
            case measure =>
              simp [intOf]
              omega
          | succ p =>
            obtain ⟨a, ha⟩ : ∃ a, t[p]? = some a := ⟨_, List.getElem?_eq_getElem (by omega)⟩
            have ha1 := ids_get ha
            have hcp2 := hcl p (a.1 : Int) (by rw [List.getElem?_append_left (by rw [List.length_take]; omega), List.getElem?_take_of_lt (by omega)]; exact ha1)
            obtain ⟨hak, hap⟩ := HM.out a (List.mem_of_getElem? ha)
            have hcr := hrs.r2 (i := a.1) (by omega)
            rw [← hap] at hcr
            clear hap
            have haN : (a.1 : Int) < (N : Int) := by omega
            have ha0 : (0 : Int) ≤ (a.1 : Int) := by omega
            have HA := fun W => rahead_any ps (k : Int) a.2 (a.1 : Int) W
            rw [ahead_bef] at HA
            have e1 : ((p + 1 : Nat) : Int) = (p : Int) + 1 := by omega
            have hq0 : (0 : Int) ≤ (p : Int) := by omega
            have hq1 : (p : Int) < ((t.length : Int) + 1) := by omega
            have HB : Hid (∀ b, Hp.befB (k, ps) a = b → (b = true → ∀ x ∈ t.drop p, Hp.befB (k, ps) x = true) ∧ (b = false → (ids t).take (p + 1) ++ (k : Int) :: (ids t).drop (p + 1) = l')) := fun b hb => by
              obtain ⟨hpl, e⟩ := List.getElem?_eq_some_iff.1 ha
              refine ⟨fun hbt x hx => ?_, fun hbf => HI.out (p + 1) hp hz.out (.inr ⟨a, ha, by rw [hb, hbf]⟩)⟩
              rw [List.drop_eq_getElem_cons hpl, e] at hx
              rcases List.mem_cons.1 hx with rfl | hx
              · rw [hb, hbt]
              · exact hz.out x hx
            obtain ⟨b, hb⟩ : ∃ b, Hp.befB (k, ps) a = b := ⟨_, rfl⟩
            rw [hb] at HA
            have HB2 := HB.out b hb
            clear HB hb
            have hr2 : ∀ nq, RowI ((wr.drewN nq).setCell ⟨g, p + 1, none⟩ (.int .i64 (a.1 : Int))) w.heap.size (.slice (some ⟨g, 0, none⟩) (t.length + 1) vc3) ((ids t).take p ++ (a.1 : Int) :: (ids t).drop p) := fun nq => by
              have h := RowI.set (hr.below (below_drN wr nq)) (p + 1) (a.1 : Int)
              rw [set_ins (ids t) (p + 1) y _ hp', back_ins (ids t) p _ ha1] at h
              exact h
            have hB2 : ∀ nq x, Below w.heap.size w ((wr.drewN nq).setCell ⟨g, p + 1, none⟩ x) := fun nq x => below_set (hB.trans ((below_drN wr nq).mono hB.size)) (p := ⟨g, _, none⟩) hbg _
            have hX2 : ∀ nq x, ((wr.drewN nq).setCell ⟨g, p + 1, none⟩ x).cell? ⟨X, 2, none⟩ = some (.int .i64 ps) := fun nq x => (World.cell?_of_block (Below.heap_setCell _ _ _ _ (fun e => hgX e.symm))).trans (((below_drN wr nq).cell (World.block_lt_of_cell? wr _ hX)).trans hX)
            have hset : ∀ nq, b = false → RowI ((wr.drewN nq).setCell ⟨g, p + 1, none⟩ (.int .i64 (k : Int))) w.heap.size (.slice (some ⟨g, 0, none⟩) (t.length + 1) vc3) l' := fun nq hbf => by
              have h := RowI.set (hr.below (below_drN wr nq)) (p + 1) (k : Int)
              rw [set_ins (ids t) (p + 1) y _ hp', HB2.2 hbf] at h
              exact h
            generalize a.1 = ai at *
            generalize a.2 = ap at *
            cases b
            · have hset' := fun nq => hset nq rfl
              clear hset hr2 hX2 hcl hfr hr hrs HB2
              go_wp2_with fail
              go_quiet (first | (go_at_call 70; exact Calls.quiet_of ((HA _).mono (fun _ _ ⟨h1, h2⟩ => ⟨h1, 0, h2⟩))))
              go_wp2_with fail
              go_roundw
              case rel => exact ⟨k + 1, by omega, by simp, by rw [hl'.out]; exact hset' _, hB2 _ _⟩
              case measure =>
                simp [intOf]
                omega
            · have hz2 : Hid (∀ x ∈ t.drop p, Hp.befB (k, ps) x = true) := HB2.1 rfl
              clear hset hcl hfr hr hrs HB2
              go_wp2_with fail
              go_quiet (first | (go_at_call 70; exact Calls.quiet_of ((HA _).mono (fun _ _ ⟨h1, h2⟩ => ⟨h1, 0, h2⟩))))
              go_wp2_with fail
              go_roundw
              case rel => exact ⟨p, _, by omega, by trivial, hr2 _, hz2, hB2 _ _, hX2 _ _⟩
              case measure =>
                simp [intOf]
      · have hs' : Hid (qN σ.L (k + 1) = qN σ.L k) := qN_skip hw
        have hw' : ((rw σ.L k).1 == 1) = false := by simpa using hw
        generalize (rw σ.L k).1 = st at *
        generalize (rw σ.L k).2.1 = tk at *
        generalize (rw σ.L k).2.2.1 = ps at *
        generalize (rw σ.L k).2.2.2 = pk at *
        have hB2 := fun o : Obj => hB.alloc hB.size o
        have hr2 := fun o : Obj => hr.below ((Below.refl _ wr).alloc (Nat.le_refl _) o)
        clear hw
        go_wp2_with fail
        go_roundw
        case rel => exact ⟨k + 1, by omega, by simp, by rw [hs'.out]; exact hr2 _, hB2 _⟩
        case measure =>
          simp [intOf]
          omega
    · obtain rfl : k = N := by omega
      go_wp2_with fail
      go_ret
      exact ⟨_, rfl, by rw [HL.out]; exact hr, hB⟩
end
end Go.Proofs.YtlnfabjgcecebaaGreat.Rd
