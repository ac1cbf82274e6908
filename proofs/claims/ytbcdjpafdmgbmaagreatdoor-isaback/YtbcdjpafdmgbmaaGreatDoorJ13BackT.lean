/- Marks of ranges over functions that a frame bears; what is left of them at its end. -/
/- Print: the program's. -/
import Derived.Test.YtbcdjpafdmgbmaaGreatDoorJ05BackT
import Derived.Test.YtbcdjpafdmgbmaaGreatDoorJ11BackT
import Derived.Test.YtbcdjpafdmgbmaaGreatDoorJ12BackT
import Derived.Lib.LaidTab
namespace Go.Proofs.YtbcdjpafdmgbmaaGreatDoor
open Go.RowKit

def mkD (D : Nat) : Deferred := { target := .collected D, args := #[] }
/-- Marks, each with its own block, which holds nothing. -/
structure Marks (base : Nat) (Ds : List Nat) (W : World) : Prop where
  nodup : Ds.Nodup
  at_ : ∀ D ∈ Ds, base ≤ D ∧ W.heap[D]? = some (.deferred (some []))
theorem Marks.nil (base : Nat) (W : World) : Marks base [] W := ⟨List.nodup_nil, fun _ h => by cases h⟩
theorem Marks.lt {base : Nat} {Ds : List Nat} {W : World} (h : Marks base Ds W) {D : Nat} (hD : D ∈ Ds) : D < W.heap.size := (Array.getElem?_eq_some_iff.1 (h.at_ D hD).2).1
theorem Marks.keep {base : Nat} {Ds : List Nat} {W W' : World} (h : Marks base Ds W) (k : KeepsFrom base W W') : Marks base Ds W' := ⟨h.nodup, fun D hD => ⟨(h.at_ D hD).1, k.same D _ (h.at_ D hD).1 (h.at_ D hD).2 rfl⟩⟩
theorem Marks.but {base : Nat} {S Ds : List Nat} {W W' : World} (h : Marks base Ds W) (k : But S W W') (hS : ∀ D ∈ Ds, D ∉ S) : Marks base Ds W' := ⟨h.nodup, fun D hD => ⟨(h.at_ D hD).1, (k.block D (h.lt hD) (hS D hD)).trans (h.at_ D hD).2⟩⟩
theorem Marks.cons {base : Nat} {Ds : List Nat} {W : World} (h : Marks base Ds W) {D : Nat} (hD : ∀ x ∈ Ds, x < D) (hb : base ≤ D) (e : W.heap[D]? = some (.deferred (some []))) : Marks base (D :: Ds) W :=
  ⟨List.nodup_cons.2 ⟨fun hm => by have := hD D hm; omega, h.nodup⟩, fun x hx => by
    rcases List.mem_cons.1 hx with rfl | hx
    · exact ⟨hb, e⟩
    · exact h.at_ x hx⟩
/-- A block that is turned, no cells and not a mark's, leaves the marks. -/
theorem Marks.own {base n : Nat} {Ds : List Nat} {A B : World} {row : Option Nat} (h : Marks base Ds A) (hg : A.grownBy B row) (hr : ∀ r, row = some r → n ≤ r) (hn : ∀ D ∈ Ds, D < n) : Marks base Ds B :=
  ⟨h.nodup, fun D hD => ⟨(h.at_ D hD).1, (hg.block D (h.lt hD) (fun e => by have := hr D e.symm; have := hn D hD; omega)).trans (h.at_ D hD).2⟩⟩

theorem leaves_marks {F : Fence} {n : Nat} {P : Program} {fn : Func} {tmps : Array Value} {R : Ending → World → Prop} : ∀ (Ds : List Nat) (W : World), Ds.Nodup → (∀ D ∈ Ds, W.heap[D]? = some (.deferred (some []))) →
    (∀ W', But Ds W W' → ∃ v, (results fn tmps).run P W' = .ok v W' ∧ R (.returned v) W') → LeavesInM F n P fn tmps R (Ds.map mkD) .returning W
  | [], W, _, _, h => h W (But.refl _ _)
  | D :: Ds, W, hn, hD, h => by
    have hn' := List.nodup_cons.1 hn
    refine ⟨by simp, .inl ⟨D, _, rfl, run_takeDeferred (hD D (by simp)), ?_⟩⟩
    have b1 : But [D] W (W.putObj D (.deferred none)) := ⟨rfl, rfl, rfl, by simp, fun k _ hk => World.putObj_heap_other (by simpa using hk)⟩
    refine leaves_marks Ds _ hn'.2 (fun x hx => ?_) (fun W' hb => h W' ?_)
    · have hne : x ≠ D := fun e => hn'.1 (by rw [← e]; exact hx)
      exact (World.putObj_heap_other hne).trans (hD x (by simp [hx]))
    · exact (b1.mono (by simp)).trans (hb.mono (fun x hx => by simp [hx]))
theorem post_marks {F : Fence} {n : Nat} {P : Program} {fn : Func} {tmps : Array Value} {R : Ending → World → Prop} {Ds : List Nat} {W : World} {base : Nat} (hm : Marks base Ds W)
    (h : ∀ W', But Ds W W' → ∃ v, (results fn tmps).run P W' = .ok v W' ∧ R (.returned v) W') : bodyPostM F n P fn R .ret { tmps := tmps, defers := Ds.map mkD } W :=
  leaves_marks Ds W hm.nodup (fun D hD => (hm.at_ D hD).2) h

end Go.Proofs.YtbcdjpafdmgbmaaGreatDoor
namespace Go.Proofs.YtbcdjpafdmgbmaaGreatDoor
open Go.RowKit Go.Shelf
attribute [local go_sem] Oper.semAt_some

/-- The tables lie in memory: isa's, and the library's powers of ten. -/
structure Env (w : World) : Prop where
  tab : Tab w
  pw : Lib.TabIs Tryz.prog w "internal/strconv.uint64pow10" .u64 Lib.pow10Tab
theorem pw_global : Tryz.prog.globalNamed "internal/strconv.uint64pow10" = some 4 := by kernel_rfl
theorem Env.put {w w' : World} (h : Env w) (e0 : w'.heap[0]? = w.heap[0]?) (e4 : w'.heap[4]? = w.heap[4]?) : Env w' := by
  refine ⟨h.tab.put e0, ?_⟩
  have := h.pw
  unfold Lib.TabIs World.var? at this ⊢
  rw [pw_global] at this ⊢
  simp only [Option.bind_some] at this ⊢
  rw [e4]
  exact this
theorem Env.lt {w : World} (h : Env w) : 4 < w.heap.size := by
  have := h.pw
  unfold Lib.TabIs World.var? at this
  rw [pw_global] at this
  apply Nat.lt_of_not_le
  intro hle
  simp [Array.getElem?_eq_none hle] at this
theorem Env.below {w w' : World} {n : Nat} (h : Env w) (hb : Below n w w') (hn : 4 < n) : Env w' := h.put (hb.block 0 (by omega)) (hb.block 4 hn)
theorem Env.on {w w' : World} (h : Env w) (hb : Below w.heap.size w w') : Env w' := h.below hb h.lt
theorem Env.but {S : List Nat} {w w' : World} (h : Env w) (hb : But S w w') (hS : ∀ k ∈ S, 4 < k) : Env w' := by
  have := h.lt
  exact h.put (hb.block 0 (by omega) (fun e => by have := hS 0 e; omega)) (hb.block 4 this (fun e => by have := hS 4 e; omega))

theorem itoa_any {w : World} (v : Int) (h0 : -9223372036854775808 ≤ v) (h1 : v ≤ 9223372036854775807) (hE : Env w) :
    Calls Tryz.prog 25 #[.int .i64 v] w fun e w' => e = .returned (.string ⟨(Lib.itoa v).toArray⟩) ∧ But [] w w' := by
  refine (Tryz.strconv_Itoa v h0 h1 w hE.pw).mono ?_
  rintro e w' ⟨rfl, k, os, rfl⟩
  refine ⟨rfl, rfl, rfl, rfl, ?_, fun i hi _ => ?_⟩
  · show w.heap.size ≤ (w.heap ++ os).size
    simp
  · show (w.heap ++ os)[i]? = w.heap[i]?
    rw [Array.getElem?_append_left hi]

/-- The first j numbers that are used, as they are told. -/
def numsJ (x : Ins) (j : Nat) : List UInt8 := ((usedL x).take j).flatMap (fun v => 32 :: Lib.itoa v)
theorem numsJ_zero (x : Ins) : numsJ x 0 = [] := by simp [numsJ]
theorem numsJ_all (x : Ins) : numsJ x (usQ x.1).length = numsL x := by
  unfold numsJ numsL
  rw [List.take_of_length_le (by unfold usedL; rw [List.length_map]; exact Nat.le_refl _)]
theorem used_at {x : Ins} {j k : Nat} (h : (usQ x.1)[j]? = some k) : (usedL x)[j]? = some (nk x k) := by
  unfold usedL
  rw [List.getElem?_map, h]
  rfl
theorem numsJ_succ {x : Ins} {j k : Nat} (h : (usQ x.1)[j]? = some k) : numsJ x (j + 1) = numsJ x j ++ (32 :: Lib.itoa (nk x k)) := by
  unfold numsJ
  rw [List.take_add_one, used_at h, List.flatMap_append]
  simp
theorem numsJ_len {x : Ins} {n j : Nat} (hn : n ≤ 64) (h : goodB n x = true) : (numsJ x j).length ≤ 45 := by
  have h3 : ((usedL x).take j).length ≤ 3 := by
    rw [List.length_take]
    have : (usedL x).length ≤ 3 := by unfold usedL; rw [List.length_map]; exact usQ_len _
    omega
  have := flat_le (l := (usedL x).take j) (fun v hv => by obtain ⟨a, b⟩ := used_small hn h (List.mem_of_mem_take hv); exact itoa_len a b)
  unfold numsJ
  omega
theorem printL_snoc {ps : List Ins} {i : Nat} {x : Ins} (h : ps[i]? = some x) : printL (ps.take (i + 1)) = printL (ps.take i) ++ printI x := by
  unfold printL
  rw [List.take_add_one, h, List.flatMap_append]
  simp
theorem Bd.own_ {b lo : Nat} {v : Value} {l : List UInt8} {A B : World} {row : Option Nat} (h : Bd A lo b v l) (hg : A.grownBy B row) (hr : ∀ r, row = some r → ∃ o : Obj, A.heap[r]? = some o ∧ o.isCells = false) : Bd B lo b v l :=
  h.keep (fun k hk => by
    obtain ⟨o, ho, hc⟩ := h.inn k hk
    refine hg.block k (Array.getElem?_eq_some_iff.1 ho).1 (fun e => ?_)
    obtain ⟨o', ho', hc'⟩ := hr k e.symm
    rw [ho] at ho'
    cases ho'
    rw [hc] at hc'
    cases hc')

set_option maxRecDepth 100000 in
set_option maxHeartbeats 4000000 in
theorem print_in (ps : List Ins) (a : Option Addr) (c : Nat) (w : World) (hp : PV w a ps) (hw : wholeB ps = true) (hE : Env w) :
    CallsIn Fence.wide 9 Tryz.prog 10 #[.slice a ps.length c] w fun e w' => e = .returned (.string ⟨(printL ps).toArray⟩) ∧ Below w.heap.size w w' := by
  have HW := whole_any c hp hE.tab
  rw [hw] at HW
  obtain ⟨h64, hall⟩ := wholeB_iff.1 hw
  have hmem := whole_mem hw
  obtain ⟨n, hn⟩ : ∃ n, ps.length = n := ⟨_, rfl⟩
  rw [hn] at HW h64 hall hmem ⊢
  refine callsIn_of_wp_marks Tryz.func10 rfl trivial ?_ rfl
  simp only [Tryz.ntmps10, List.size_toArray, List.length_cons, List.length_nil, Nat.reduceAdd, Nat.reduceSub, Array.replicate_succ, Array.replicate_zero, List.push_toArray, List.append_toArray, List.nil_append, List.cons_append]
  gi_wp2_with (refine ⟨trivial, ?_⟩; gi_at_call 7; refine (callsIn_wide.2 HW).mono ?_; rintro e w1 ⟨rfl, hb1⟩)
  have hB0 : Bd (w1.alloc (.cells #[.pointer none, .slice none 0 0] 61)) w.heap.size w1.heap.size (.slice none 0 0) [] := ⟨⟨_, World.alloc_heap_new w1 _, .inl rfl⟩, own_nil _ _, hb1.size⟩
  have hb2 : Below w.heap.size w (w1.alloc (.cells #[.pointer none, .slice none 0 0] 61)) := hb1.alloc hb1.size _
  generalize (w1.alloc (.cells #[.pointer none, .slice none 0 0] 61)) = W0 at hB0 hb2 ⊢
  generalize w1.heap.size = b at hB0 ⊢
  clear HW hb1 hw
  have Hn : Hid (ps.length = n) := Hid.mk hn
  clear hn
  refine wpIn_loop (fun A W => ∃ (i : Nat) (Ds : List Nat) (v : Value) (u5 u6 u13 u14 u15 u16 u17 u18 u19 u20 u21 u22 u23 u24 u25 u26 u27 u28 u29 : Value), i ≤ n ∧ Marks w.heap.size Ds W ∧ Bd W w.heap.size b v (printL (ps.take i)) ∧ Below w.heap.size w W ∧
      A = { tmps := #[.slice a n c, undef, .string ⟨#[]⟩, .pointer (some ⟨b, 0, none⟩), undef, u5, u6, .slice a n c, .bool true, .bool false, .slice a n c, .int .i64 (n : Int), .int .i64 (i : Int), u13, u14, u15, u16, u17, u18, u19, u20, u21, u22, u23, u24, u25, u26, u27, u28, u29, undef], defers := Ds.map mkD }) (fun A _ => n - (intOf (A.tmps.getD 12 undef)).toNat) ?start ?round
  case start => exact ⟨0, [], _, undef, undef, undef, undef, undef, undef, undef, undef, undef, undef, undef, undef, undef, undef, undef, undef, undef, undef, undef, Nat.zero_le _, Marks.nil _ _, hB0, hb2, rfl⟩
  case round =>
    clear hB0 hb2 W0
    rintro A W ⟨i, Ds, v, u5, u6, u13, u14, u15, u16, u17, u18, u19, u20, u21, u22, u23, u24, u25, u26, u27, u28, u29, hi, hM, hB, hb, rfl⟩
    have hEW := hE.on hb
    by_cases hlt : i < n
    · have hi' : i < ps.length := by rw [Hn.out]; exact hlt
      obtain ⟨bq, o, rfl, c0, c1, c2, c3⟩ := hp.below hb i hi'
      have hsn := Hid.mk (printL_snoc (ins_get hi'))
      have hg := hall i hlt
      have hlen : (printL (ps.take i)).length ≤ 52 * 64 := by
        have := printL_len (p := ps.take i) h64 (fun x hx => hmem x (List.mem_of_mem_take hx))
        rw [List.length_take] at this
        omega
      generalize hx : ins ps i = x at *
      clear hx hall hmem hp hi'
      have hl2 : (i : Int) < (n : Int) := by omega
      -- the instruction's own cells
      have hb3 : But [] W (W.alloc (.cells #[.int .i64 x.1, .int .i64 x.2.1, .int .i64 x.2.2.1, .int .i64 x.2.2.2] 37)) := (But.refl [] W).alloc _
      have hB3 := hB.but hb3 (by simp)
      have hS3 : Safe (ownB b) (W.alloc (.cells #[.int .i64 x.1, .int .i64 x.2.1, .int .i64 x.2.2.1, .int .i64 x.2.2.2] 37)) W.heap.size (insC x) 37 (0, 0) := Safe.new (stab_b b) hB.inn hb3 (Nat.le_refl _) (World.alloc_heap_new W _)
      have e3 : (W.alloc (.cells #[.int .i64 x.1, .int .i64 x.2.1, .int .i64 x.2.2.1, .int .i64 x.2.2.2] 37)).cell? ⟨W.heap.size, 0, none⟩ = some (.int .i64 x.1) := hS3.cell rfl
      have HN := name_any x.1 (W.alloc (.cells #[.int .i64 x.1, .int .i64 x.2.1, .int .i64 x.2.2.1, .int .i64 x.2.2.2] 37)) (hEW.but hb3 (by simp)).tab
      have HS := sb_str hB3 (nmL x.1) (by have := nmL_len x.1; omega) (Nat.le_trans hb.size hb3.size)
      gi_wp2_with (first
        | (refine ⟨trivial, ?_⟩; gi_at_call 23; refine (callsIn_wide.2 HN).mono ?_; rintro e w4 ⟨rfl, rfl⟩)
        | (refine ⟨trivial, ?_⟩; gi_at_call 22; refine (callsIn_wide.2 HS).mono ?_; rintro e w5 ⟨⟨u, rfl⟩, ⟨v5, hB5⟩, hs5⟩)
        | (refine ⟨trivial, ?_⟩; gi_at_call 18; refine (callsIn_wide.2 (used_any _ _)).mono ?_; rintro e w6 ⟨rfl, rfl⟩))
      have hk5 := fun base => hs5.kp (base := base) hB3.inn
      have hS5 := hS3.kp (hk5 0)
      have b6 : But [] w5 (w5.alloc (.cells #[.pointer (some ⟨W.heap.size, 0, none⟩)] 49)) := (But.refl [] w5).alloc _
      have hB6 := hB5.but b6 (by simp)
      have hS6 := Safe.but (stab_b b) hB5.inn hS5 b6
      have cX6 : (w5.alloc (.cells #[.pointer (some ⟨W.heap.size, 0, none⟩)] 49)).cell? ⟨w5.heap.size, 0, none⟩ = some (.pointer (some ⟨W.heap.size, 0, none⟩)) := by simp [go_sem]
      have bel5 : Below w.heap.size w w5 := (hb.trans (hb3.to_below.mono hb.size)).trans (hs5.below hB3.blk_lo (Nat.le_trans hb.size hb3.size))
      have bel6 : Below w.heap.size w (w5.alloc (.cells #[.pointer (some ⟨W.heap.size, 0, none⟩)] 49)) := bel5.alloc bel5.size _
      have hM6 := ((hM.but hb3 (by simp)).keep (hk5 w.heap.size).from_).but b6 (by simp)
      have hDs : ∀ D ∈ Ds, D < (w5.alloc (.cells #[.pointer (some ⟨W.heap.size, 0, none⟩)] 49)).heap.size := fun D hD => hM6.lt hD
      clear hk5 hS5 b6 hs5 hS3 hB5 hB3 e3 HN HS hb3 c0 c1 c2 c3 hM hB hb hEW bel5
      generalize (w5.alloc (.cells #[.pointer (some ⟨W.heap.size, 0, none⟩)] 49)) = W6 at hB6 hS6 cX6 bel6 hM6 hDs ⊢
      generalize w5.heap.size = X at cX6 ⊢
      generalize W.heap.size = B at hS6 cX6 ⊢
      have cB6 : W6.cell? ⟨B, 0, none⟩ = some (.int .i64 x.1) := hS6.cell rfl
      have hlT : (printL (ps.take i) ++ nmL x.1).length ≤ 52 * 64 + 6 := by
        rw [List.length_append]
        have := nmL_len x.1
        omega
      have hfin := Hid.mk (show printL (ps.take (i + 1)) = printL (ps.take i) ++ nmL x.1 ++ numsL x ++ [10] by rw [hsn.out]; simp [printI])
      clear hsn hlen
      generalize hT : printL (ps.take i) ++ nmL x.1 = T at hB6 hlT hfin
      clear hT
      refine wp_range (stab_b b) (gf := 41) (lb := #[.pointer (some ⟨X, 0, none⟩)]) rfl (enters_of Tryz.func41 (by kernel_rfl) rfl)
        (used_seq (stab_b b) X B x.1 W6 (hE.on bel6).tab cX6 cB6) (Below.refl _ _) (fun _ => rfl)
        (fun j A => (∃ v, Bd A w.heap.size b v (T ++ numsJ x j)) ∧ Safe (ownB b) A B (insC x) 37 (0, 0) ∧ Below w.heap.size w A ∧ Marks w.heap.size Ds A)
        (fun _ _ => False) ?hI (fun c' u A A' row h _ _ => h) (fun j A h => by obtain ⟨⟨v, h⟩, _⟩ := h; exact h.inn) ⟨⟨_, by rw [numsJ_zero, List.append_nil]; exact hB6⟩, hS6, bel6, hM6⟩ ?a1 ?assign ?body ?done ?stop
      case hI =>
        rintro j A A' row ⟨⟨v, h1⟩, h2, h3, h4⟩ hg' hr
        have hr2 := fun r e => (hr r e).2
        exact ⟨⟨v, h1.own_ hg' hr2⟩, Safe.own (stab_b b) h1.inn h2 hg' hr2, below_own h3 hg' (fun r e => by have := (hr r e).1; have := bel6.size; omega) h3.size, h4.own hg' (fun r e => (hr r e).1) hDs⟩
      case assign =>
        intro l x W K hK
        gi_wp2
        exact hK
      case body =>
        rintro l2 j k A hj ⟨⟨v, h1⟩, h2, h3, h4⟩
        have hkl := usQ_mem (List.mem_of_getElem? hj)
        have hns := numsJ_succ hj
        obtain ⟨q1, q2⟩ := good_small h64 hg hkl.1
        have hln : (T ++ numsJ x j).length ≤ 52 * 64 + 51 := by
          rw [List.length_append]
          have := numsJ_len (j := j) h64 hg
          omega
        have hil := itoa_len q1 q2
        have H1 := sb_byte h1 32 (by omega) h3.size
        unfold encU
        gi_wp2_with (first
          | (refine ⟨trivial, ?_⟩; gi_at_call 24; refine (CallsIn.inRound l2 (callsIn_wide.2 H1)).mono ?_; rintro e A1 ⟨rfl, ⟨v1, g1⟩, s1⟩; have hb1 := h3.trans (s1.below h1.blk_lo h3.size); have cv := (h2.kp (s1.kp (base := 0) h1.inn)).cell (insC_num x hkl.1))
          | (refine ⟨trivial, ?_⟩; gi_at_call 25; refine (CallsIn.inRound l2 (callsIn_wide.2 (itoa_any (nk x k) (by omega) (by omega) (hE.on hb1)))).mono ?_; rintro e A2 ⟨rfl, bt⟩; have g2 := g1.but bt (by simp); have H3 := sb_str g2 (Lib.itoa (nk x k)) (by simp only [List.length_append, List.length_cons, List.length_nil] at hln ⊢; omega) (Nat.le_trans hb1.size bt.size))
          | (refine ⟨trivial, ?_⟩; gi_at_call 22; refine (CallsIn.inRound l2 (callsIn_wide.2 H3)).mono ?_; rintro e A3 ⟨⟨u', rfl⟩, ⟨v3, g3⟩, s3⟩))
        have sA : StB b A A3 := (s1.trans (StB.keep g1.inn bt)).trans s3
        have kA := fun base => sA.kp (base := base) h1.inn
        refine ⟨kA _, ⟨v3, ?_⟩, h2.kp (kA 0), h3.trans (sA.below h1.blk_lo h3.size), h4.keep (kA _).from_⟩
        rw [hns]
        simpa using g3
      case done =>
        rintro D A hD ⟨⟨v, h1⟩, h2, h3, h4⟩ hK
        rw [numsJ_all] at h1
        have hln : (T ++ numsL x).length ≤ 52 * 64 + 51 := by
          rw [List.length_append]
          have := numsJ_len (j := (usQ x.1).length) h64 hg
          rw [numsJ_all] at this
          omega
        have H1 := sb_byte h1 10 (by omega) h3.size
        have hnx : IntKind.i64.wrap ((i : Int) + 1) = ((i + 1 : Nat) : Int) := by rw [IntKind.wrap_i64] <;> omega
        have hnx2 : wrap64 ((i : Int) + 1) = ((i + 1 : Nat) : Int) := by unfold wrap64; omega
        dsimp only
        gi_wp2_with (refine ⟨trivial, ?_⟩; gi_at_call 24; refine (callsIn_wide.2 H1).mono ?_; rintro e A1 ⟨rfl, ⟨v1, g1⟩, s1⟩)
        have kA := fun base => s1.kp (base := base) h1.inn
        have hKA := (kA w.heap.size).from_.same D _ (by have := bel6.size; omega) hK rfl
        have hM' : Marks w.heap.size (D :: Ds) A1 := (h4.keep (kA _).from_).cons (fun y hy => by have := hDs y hy; omega) (by have := bel6.size; omega) hKA
        have hB' : Bd A1 w.heap.size b v1 (printL (ps.take (i + 1))) := by rw [hfin.out]; exact g1
        have hb' := h3.trans (s1.below h1.blk_lo h3.size)
        refine ⟨⟨i + 1, D :: Ds, v1, _, _, _, _, _, _, _, _, _, _, _, _, _, _, _, _, _, _, _, by omega, hM', hB', hb', rfl⟩, ?_⟩
        simp [intOf]
        omega
      case stop =>
        rintro D c' A _ h _
        exact h.elim
    · obtain rfl : i = n := by omega
      have eT : printL (ps.take i) = printL ps := by rw [List.take_of_length_le (by rw [Hn.out]; exact Nat.le_refl _)]
      rw [eT] at hB
      have HS := Tryz.Builder_String_any_k w.heap.size b (printL ps) W (Lib.IsBuilderF.of hB.lib) hb.size
      gi_wp2_with (refine ⟨trivial, ?_⟩; gi_at_call 26; refine (callsIn_wide.2 HS).mono ?_; rintro e W2 ⟨rfl, _, hb2, ho2⟩)
      have hM2 : Marks w.heap.size Ds W2 := ⟨hM.nodup, fun D hD => ⟨(hM.at_ D hD).1, ho2 D _ (hM.at_ D hD).2 (fun e => by
        obtain ⟨p, hbk, _⟩ := hB.at_
        cases e
        have := (hM.at_ b hD).2
        rw [hbk] at this
        cases this) (fun _ _ e => by cases e)⟩⟩
      refine post_marks hM2 (fun W3 hb3 => ⟨_, results_tmp rfl _ _ _, rfl, ?_⟩)
      exact (hb.trans hb2).trans (hb3.below (hb.trans hb2).size (fun D hD => (hM2.at_ D hD).1))

theorem print_any {ps : List Ins} {a : Option Addr} (c : Nat) {w : World} (hp : PV w a ps) (hE : Env w) :
    Calls Tryz.prog 10 #[.slice a ps.length c] w fun e w' => e = .returned (.string ⟨(printA ps).toArray⟩) ∧ Below w.heap.size w w' := by
  unfold printA
  cases hw : wholeB ps with
  | true => exact callsIn_wide.1 (print_in ps a c w hp hw hE)
  | false =>
    have HW := whole_any c hp hE.tab
    rw [hw] at HW
    go_enter Tryz.func10, Tryz.ntmps10
    go_wp2_with (go_at_call 7; (with_reducible refine HW.mono ?_); rintro e w1 ⟨rfl, hb1⟩)
    go_ret
    exact ⟨rfl, hb1⟩

end Go.Proofs.YtbcdjpafdmgbmaaGreatDoor
