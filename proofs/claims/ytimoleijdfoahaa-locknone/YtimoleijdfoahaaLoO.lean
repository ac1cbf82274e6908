/- The walk of LockOrder, over any locks that tell as they must. -/
import Derived.Test.YtimoleijdfoahaaLoV
namespace Go.Proofs.Ytimoleijdfoahaa.Lo
open Go Go.RowKit Go.Proofs.Ytimoleijdfoahaa.Bs
open Go.Proofs.Ytimoleijdfoahaa.Lk (inN inN_of inN_out ints ints_iv ints_len iv)

/-- Lock 0 is the first's of A, the others of A wait for it. -/
structure Od (σ : St) (A : List Nat) : Prop where
  o : ow σ 0 = headV A
  w : W σ 0 = A.tail
  s : S σ 0 = []
theorem Od.free {σ : St} {A : List Nat} (hok : Ok 1 16 σ) (h : Od σ A) {t : Nat} (ht : t ∉ A.tail) : wt σ (t : Int) = -1 := by
  refine hok.wt_none (fun i hi => ?_)
  obtain rfl : i = 0 := by omega
  rw [h.w, h.s]
  refine ⟨fun hm => ?_, fun hm => ?_⟩
  · obtain ⟨u, e, hu⟩ := ints_mem.1 hm
    have e2 : u = t := by omega
    exact ht (e2 ▸ hu)
  · obtain ⟨u, _, hu⟩ := ints_mem.1 hm
    cases hu
theorem Od.lock {σ : St} {A : List Nat} (hok : Ok 1 16 σ) (h : Od σ A) {t : Nat} (ht : t < 16) :
    (t ∈ A ∧ lockE σ 0 (t : Int) = 5) ∨ (t ∉ A ∧ lockE σ 0 (t : Int) = 0 ∧ lockB σ 0 (t : Int) = decide (A = []) ∧ Od (lockS σ 0 (t : Int)) (A ++ [t])) := by
  have i1 : inO σ 0 = true := inN_of (k := 0) (by rw [hok.ol]; omega)
  have i2 : inT σ (t : Int) = true := inN_of (by rw [hok.al]; exact ht)
  have how : owI σ 0 = headV A := h.o
  by_cases hm : t ∈ A
  · refine .inl ⟨hm, ?_⟩
    cases A with
    | nil => cases hm
    | cons a r =>
      rcases List.mem_cons.1 hm with e | hr
      · exact lockE_m i1 i2 (by rw [how, e]; rfl)
      · refine lockE_w i1 i2 ?_
        have hw : t ∈ W σ 0 := by rw [h.w]; exact hr
        rw [hok.wt_at (hok.w (o := 0) (by omega)) hw]
        omega
  · have hwt : wt σ (t : Int) = -1 := h.free hok (fun hr => hm (List.mem_of_mem_tail hr))
    have hne : owI σ 0 ≠ (t : Int) := by
      rw [how]
      cases A with
      | nil => show (-1 : Int) ≠ _; omega
      | cons a r =>
        show ((a : Nat) : Int) ≠ (t : Int)
        intro e
        have : a = t := by omega
        exact hm (by rw [this]; simp)
    have e0 := lockE_0 i1 i2 hwt hne
    refine .inr ⟨hm, e0, ?_, ?_⟩
    · unfold lockB
      rw [e0, how]
      cases A with
      | nil => rfl
      | cons a r =>
        rw [decide_eq_false (by rintro ⟨-, e⟩; have e' : ((a : Nat) : Int) = -1 := e; omega), decide_eq_false (by simp)]
    · have eS : lockS σ 0 (t : Int) = wantS σ 0 t := by unfold lockS; rw [if_pos e0]; rfl
      rw [eS]
      unfold wantS
      have hl := hok.ls.len
      have hol := hok.ol
      cases A with
      | nil =>
        rw [if_pos (by rw [h.o]; rfl)]
        refine ⟨?_, h.w, ?_⟩
        · rw [ow_set hok (by omega), if_pos rfl]
          rfl
        · have := h.s
          unfold S at this ⊢
          rw [List.length_set]
          exact this
      | cons a r =>
        rw [if_neg (by rw [h.o]; show ((a : Nat) : Int) ≠ -1; omega)]
        refine ⟨h.o, ?_, ?_⟩
        · rw [W_set hok (by omega), if_pos rfl, h.w]
          rfl
        · rw [S_set hok (by omega) hol, if_neg (by omega), h.s]
theorem Od.unlock {σ : St} {a : Nat} {r : List Nat} (hok : Ok 1 16 σ) (h : Od σ (a :: r)) :
    unlE σ 0 (a : Int) = 0 ∧ unlV σ 0 (a : Int) = headV r ∧ Od (unlS σ 0 (a : Int)) r := by
  have hol := hok.ol
  have ho : ow σ 0 = (a : Int) := h.o
  have ha : a < 16 := by have := (hok.own 0 (by omega)).2; omega
  have i1 : inO σ 0 = true := inN_of (k := 0) (by rw [hok.ol]; omega)
  have i2 : inT σ (a : Int) = true := inN_of (by rw [hok.al]; exact ha)
  have hn : a ∉ r := fun hm => hok.mine 0 (by omega) a (by rw [h.w]; exact hm) ho.symm
  have hwt : wt σ (a : Int) = -1 := h.free hok hn
  have e0 := unlE_0 i1 i2 hwt (show owI σ 0 = (a : Int) from ho)
  have eP : passV σ 0 = headV r := by unfold passV; rw [h.w]; rfl
  refine ⟨e0, ?_, ?_⟩
  · unfold unlV
    rw [if_pos e0]
    exact eP
  · have eS : unlS σ 0 (a : Int) = passS σ 0 := by unfold unlS; rw [if_pos e0]; rfl
    rw [eS]
    unfold passS
    refine ⟨?_, ?_, ?_⟩
    · rw [ow_set hok (by omega), if_pos rfl, eP]
    · rw [W_set hok (by omega), if_pos rfl, h.w]
      rfl
    · rw [S_set hok (by omega) (by simpa using hol), if_neg (by omega), h.s]
def U8 (w : World) (a : Option Addr) (xs : List Int) : Prop := ∀ j x, xs[j]? = some x → ∃ b o, a = some ⟨b, o, none⟩ ∧ w.cell? ⟨b, o + j, none⟩ = some (.int .u8 x)
theorem U8.below {w w' : World} {a : Option Addr} {xs : List Int} (h : U8 w a xs) (hb : Below w.heap.size w w') : U8 w' a xs := fun j x hx => by
  obtain ⟨b, o, e, h0⟩ := h j x hx
  exact ⟨b, o, e, cell_on hb h0⟩
section
variable {PL : World → Nat → List Nat → Nat → Nat → St → Prop}
theorem Side.app {w w3 : World} {B n T : Nat} {Q : List Nat} {σ : St} (S : Side PL) (h : PL w B Q n T σ) {o : Obj} {v : Value} (hg : (w.alloc o).grownBy w3 v.ownBlock) (hv : ∀ k, v.ownBlock = some k → k ∉ Q) : PL w3 B Q n T σ := by
  refine S.but (S' := v.ownBlock.toList) (S.keep h ((But.refl [] w).alloc o)) ⟨hg.os, hg.tape, hg.output, hg.size, fun k hk hs => hg.block k hk (fun e => hs (by rw [← e]; simp))⟩ (fun x hx hy => ?_)
  exact hv x (by simpa using hy) hx
set_option maxRecDepth 100000 in
set_option maxHeartbeats 8000000 in
theorem order_law (S : Side PL) (sa : Option Addr) (ca : Nat) (xs : List Int) (w : World) (ha : U8 w sa xs) (hx : ∀ x ∈ xs, 0 ≤ x ∧ x ≤ 255) :
    Calls Try.prog 5 #[.slice sa xs.length ca] w fun e w' => e = .returned (.bool true) ∧ Below w.heap.size w w' := by
  have HL : ∀ W, _ := fun W => lives_any S W
  have hok0 : Ok 1 16 (new 1 16) := Ok.new (by omega) (by omega) (by omega) (by omega)
  have hod0 : Od (new 1 16) [] := ⟨rfl, rfl, rfl⟩
  have C0 : Calls Try.prog 9 #[.int .i64 1, .int .i64 16] w fun e w' => ∃ B Q, e = .returned (.pointer (some ⟨B, 0, none⟩)) ∧ PL w' B Q 1 16 (new 1 16) ∧ Step [] w Q w' := S.made 1 16 w (by omega) (by omega) (by omega) (by omega)
  by_cases hlen : 60 < xs.length
  · have hlen' : (60 : Int) < (xs.length : Int) := by omega
    go_enter Try.func5, Try.ntmps5
    go_wp2_with (first
      | (go_at_call 9; (with_reducible refine C0.mono ?_); rintro e w1 ⟨B, Q1, rfl, h1, s1⟩)
      | (go_at_call 8; refine (HL _).mono ?_; rintro e w3 ⟨rfl, b3⟩))
    go_ret
    exact ⟨rfl, (s1.but.trans (.of_below b3)).to_below⟩
  have hlen' : (xs.length : Int) ≤ 60 := by omega
  go_enter Try.func5, Try.ntmps5
  go_wp2_with (first
    | (go_at_call 9; (with_reducible refine C0.mono ?_); rintro e w1 ⟨B, Q1, rfl, h1, s1⟩))
  have R0 : RowI w1 w.heap.size (.slice none 0 0) (ints []) := ⟨by simp [ints], .inl ⟨rfl, rfl⟩⟩
  have V0 : ∀ k, (Value.slice none 0 0).ownBlock = some k → k ∉ Q1 := fun k e => by cases e
  clear C0
  generalize new 1 16 = σ0 at *
  go_loopw [30, 4, 6, 7, 8, 9] (fun v tv _ _ _ _ wr => ∃ (j : Nat) (A : List Nat) (Q : List Nat) (σ : St), j ≤ xs.length ∧ v = .int .i64 j ∧ RowI wr w.heap.size tv (ints A) ∧ (∀ k, tv.ownBlock = some k → k ∉ Q) ∧ PL wr B Q 1 16 σ ∧ Ok 1 16 σ ∧ Od σ A ∧ Step [] w Q wr ∧ A.length ≤ j) (fun v _ _ _ _ _ _ => 60 - (intOf v).toNat)
  case atStart => exact ⟨0, [], Q1, σ0, by omega, rfl, R0, V0, h1, hok0, hod0, s1, by simp⟩
  case round =>
    clear h1 hok0 hod0 s1 R0 V0
    obtain ⟨j, A, Q, σ, hj, rfl, hr, hv, hP, hok, hod, hs, hA⟩ := hrel
    obtain ⟨va, vc, rfl⟩ := own_shape hr
    rw [ints_len] at hr hv ⊢
    by_cases hlt : j < xs.length
    · have hlt' : (j : Int) < (xs.length : Int) := by omega
      obtain ⟨b, o, rfl, x0⟩ := ha.below hs.below j xs[j] (by simp)
      obtain ⟨hx0, hx1⟩ := hx xs[j] (List.getElem_mem hlt)
      generalize xs[j] = x at x0 hx0 hx1
      obtain ⟨t, hte⟩ : ∃ t : Nat, x % 16 = (t : Int) := ⟨(x % 16).toNat, by omega⟩
      have ht : t < 16 := by omega
      have L := S.lock hP hok 0 (t : Int)
      rcases hod.lock hok ht with ⟨_, e5⟩ | ⟨hnm, e0, eB, hod'⟩
      · have eS : lockS σ 0 (t : Int) = σ ∧ lockB σ 0 (t : Int) = false := lockS_no (by rw [e5]; omega)
        rw [e5, eS.1, eS.2] at L
        clear e5 eS
        go_wp2_with (first
          | (go_at_call 17; (with_reducible refine L.mono ?_); rintro e w2 ⟨rfl, Q2, h2, q2⟩; have k2 := told_on hr hv q2))
        go_roundw
        case rel => exact ⟨j + 1, A, Q2, σ, by omega, by simp, k2.1, k2.2, h2, hok, hod, hs.trans q2, by omega⟩
        case measure =>
          simp [intOf]
          omega
      · have hok' := hok.lock 0 (t : Int)
        rw [e0, eB] at L
        have hne : (!decide (A = []) == ((A.length : Int) == 0)) = false := by
          cases A with
          | nil => rfl
          | cons a r =>
            have : ((((a :: r).length : Nat) : Int) == 0) = false := by simp; omega
            rw [this]
            rfl
        have hl : A.length ≤ 10000 := by omega
        have hE : Hid (ints (A ++ [t]) = ints A ++ [(t : Int)]) := ints_app A t
        generalize lockS σ 0 (t : Int) = s2 at *
        generalize decide (A = []) = bb at *
        clear e0 eB hod hok hnm
        go_wp2_with (first
          | (go_at_call 17; (with_reducible refine L.mono ?_); rintro e w2 ⟨rfl, Q2, h2, q2⟩; have k2 := told_on hr hv q2; have hR1 : RowI (w2.alloc (.cells #[.int .i64 t] 3)) w.heap.size (.slice va A.length vc) (ints A) := k2.1.below ((Below.refl _ w2).alloc (Nat.le_refl _) _); have hlow := fun k e => (k2.1.low k e).1; have hsz : w.heap.size ≤ (w2.alloc (.cells #[.int .i64 t] 3)).heap.size := by (have := (hs.trans q2).but.size; simp; omega))
          | (at_builtin; refine wpList_app1 rfl (.tmp 54) (.tmp 56) rfl w.heap.size _ (ints A) rfl hR1 _ _ (t : Int) rfl (reads_one _ _) (by rw [ints_len]; omega) hsz ?_; intro v3 w3 hr3 hg3 ha3))
        have h3 := S.app h2 hg3 k2.2
        have s3 : Step [] w Q2 w3 := Step.app (hs.trans q2) hg3 hlow
        have v3' : ∀ k, v3.ownBlock = some k → k ∉ Q2 := fun k e hk => by
          rcases ha3 with h | h
          · exact k2.2 k (h ▸ e) hk
          · rw [h] at e
            have := Option.some.inj e
            have := S.lt h2 k hk
            simp at *
            omega
        go_roundw
        case rel => exact ⟨j + 1, A ++ [t], Q2, s2, by omega, by simp, by rw [hE.out]; exact hr3, v3', h3, hok', hod', s3, by simp; omega⟩
        case measure =>
          simp [intOf]
          omega
    have hge : ¬ (j : Int) < (xs.length : Int) := by omega
    have hod1 : Od σ (A.drop 0) := hod
    have hA60 : A.length ≤ 60 := by omega
    clear hod hx ha
    go_wp2_with fail
    go_loopw [61, 10, 11, 12, 13, 14] (fun v _ _ _ _ _ wx => ∃ (i : Nat) (Q : List Nat) (σ : St), i ≤ A.length ∧ v = .int .i64 i ∧ RowI wx w.heap.size (.slice va A.length vc) (ints A) ∧ (∀ k, (Value.slice va A.length vc).ownBlock = some k → k ∉ Q) ∧ PL wx B Q 1 16 σ ∧ Ok 1 16 σ ∧ Od σ (A.drop i) ∧ Step [] w Q wx) (fun v _ _ _ _ _ _ => 60 - (intOf v).toNat)
    case atStart => exact ⟨0, Q, σ, by omega, rfl, hr, hv, hP, hok, hod1, hs⟩
    case round =>
      clear hr hv hP hok hod1 hs
      obtain ⟨i, Q, σ, hi, rfl, hr, hv, hP, hok, hod, hs⟩ := hrel
      by_cases hil : i < A.length
      · have hil' : (i : Int) < (A.length : Int) := by omega
        have hI := RowI.at hr
        obtain ⟨g, rfl, cg⟩ := hI i _ (ints_get hil)
        have hd : A.drop i = A.getD i 0 :: A.drop (i + 1) := by
          rw [List.drop_eq_getElem_cons hil]
          congr 1
          rw [List.getD_eq_getElem?_getD, List.getElem?_eq_getElem hil]
          rfl
        rw [hd] at hod
        obtain ⟨e0, eV, hod'⟩ := hod.unlock hok
        have U := S.unlock hP hok 0 ((A.getD i 0 : Nat) : Int)
        have hok' := hok.unl 0 ((A.getD i 0 : Nat) : Int)
        rw [e0, eV] at U
        generalize unlS σ 0 ((A.getD i 0 : Nat) : Int) = s2 at *
        generalize A.getD i 0 = a at *
        clear e0 eV hod hok hd
        by_cases hn : i + 1 < A.length
        · have hn' : (i : Int) + 1 < (A.length : Int) := by omega
          have hz : headV (A.drop (i + 1)) = ((A.getD (i + 1) 0 : Nat) : Int) := by
            rw [List.drop_eq_getElem_cons hn, List.getD_eq_getElem?_getD, List.getElem?_eq_getElem hn]
            rfl
          rw [hz] at U
          have hG := ints_get hn
          generalize A.getD (i + 1) 0 = z at *
          have hzz : (((z : Nat) : Int) != (z : Int)) = false := by simp
          clear hz
          have hcast : ((i + 1 : Nat) : Int) = (i : Int) + 1 := by omega
          go_wp2_with (first
            | (go_at_call 18; (with_reducible refine U.mono ?_); rintro e w5 ⟨rfl, Q5, h5, q5⟩; have k5 := told_on hr hv q5; obtain ⟨g2, eg, cz⟩ := RowI.at k5.1 (i + 1) _ hG; cases eg))
          go_roundw
          case rel => exact ⟨i + 1, Q5, s2, by omega, by simp, k5.1, k5.2, h5, hok', hod', hs.trans q5⟩
          case measure =>
            simp [intOf]
            omega
        · have hn' : ¬ (i : Int) + 1 < (A.length : Int) := by omega
          have hz : headV (A.drop (i + 1)) = -1 := by
            rw [List.drop_eq_nil_of_le (by omega)]
            rfl
          rw [hz] at U
          clear hz
          go_wp2_with (first
            | (go_at_call 18; (with_reducible refine U.mono ?_); rintro e w5 ⟨rfl, Q5, h5, q5⟩; have k5 := told_on hr hv q5))
          go_roundw
          case rel => exact ⟨i + 1, Q5, s2, by omega, by simp, k5.1, k5.2, h5, hok', hod', hs.trans q5⟩
          case measure =>
            simp [intOf]
            omega
      have hge2 : ¬ (i : Int) < (A.length : Int) := by omega
      rw [List.drop_eq_nil_of_le (by omega)] at hod
      have OW := S.owner hP hok 0
      have e1 : owX σ 0 = -1 := by
        have hin : inO σ 0 = true := inN_of (k := 0) (by rw [hok.ol]; omega)
        unfold owX
        rw [if_pos hin]
        exact hod.o
      rw [e1] at OW
      go_wp2_with (first
        | (go_at_call 13; (with_reducible refine OW.mono ?_); rintro e w4 ⟨rfl, k4⟩)
        | (go_at_call 8; refine (HL _).mono ?_; rintro e w5 ⟨rfl, k5⟩))
      go_ret
      exact ⟨rfl, ((hs.but.trans (.of_below k4)).trans (.of_below k5)).to_below⟩
end
end Go.Proofs.Ytimoleijdfoahaa.Lo
