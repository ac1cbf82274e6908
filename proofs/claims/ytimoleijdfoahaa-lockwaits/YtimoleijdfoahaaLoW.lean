/- The walk of LockWaits, over any locks that tell as they must. -/
import Derived.Test.YtimoleijdfoahaaLoV
namespace Go.Proofs.Ytimoleijdfoahaa.Lo
open Go Go.RowKit Go.Proofs.Ytimoleijdfoahaa.Bs
open Go.Proofs.Ytimoleijdfoahaa.Lk (inN inN_of inN_out ints ints_iv ints_len iv)

/-- Does a thread stand in a row of the first o locks and conditions? -/
def seen (σ : St) (o t : Nat) : Bool := (List.range o).any (fun k => decide (t ∈ W σ k) || decide (t ∈ S σ k))
def f0 (σ : St) (o t : Nat) : Int := if seen σ o t = true then 1 else 0
def fW (σ : St) (o p t : Nat) : Int := if (seen σ o t || decide (t ∈ (W σ o).take p)) = true then 1 else 0
def fS (σ : St) (o p t : Nat) : Int := if (seen σ o t || decide (t ∈ W σ o) || decide (t ∈ (S σ o).take p)) = true then 1 else 0
def lst6 (f : Nat → Int) : List Value := (List.range 6).map (fun t => Value.int .i64 (f t))
theorem lst6_get (f : Nat → Int) {t : Nat} (h : t < 6) : (lst6 f)[t]? = some (.int .i64 (f t)) := by simp [lst6, h]
theorem lst6_set (f g : Nat → Int) {u : Nat} {x : Int} (h1 : g u = x) (h2 : ∀ t, t ≠ u → g t = f t) : (lst6 f).set u (.int .i64 x) = lst6 g := by
  refine List.ext_getElem? (fun i => ?_)
  by_cases e : u = i
  · subst e
    by_cases hu : u < 6
    · rw [List.getElem?_set_self (by simpa [lst6] using hu), lst6_get g hu, h1]
    · rw [List.getElem?_eq_none (by simp [lst6]; omega), List.getElem?_eq_none (by simp [lst6]; omega)]
  · rw [List.getElem?_set_ne e]
    by_cases hi : i < 6
    · rw [lst6_get f hi, lst6_get g hi, h2 i (fun h => e h.symm)]
    · rw [List.getElem?_eq_none (by simp [lst6]; omega), List.getElem?_eq_none (by simp [lst6]; omega)]
theorem lst6_eq {f g : Nat → Int} (h : ∀ t, t < 6 → f t = g t) : lst6 f = lst6 g := by
  unfold lst6
  refine List.map_congr_left (fun t ht => ?_)
  rw [h t (List.mem_range.1 ht)]
theorem arr6 (f : Nat → Int) (X : World) (j : Nat) (hj : j < 6) : Sem.run Try.prog (Instr.index 33 (.agg #[.int .i64 (f 0), .int .i64 (f 1), .int .i64 (f 2), .int .i64 (f 3), .int .i64 (f 4), .int .i64 (f 5)]) (.int .i64 (j : Int))) X = .ok (.int .i64 (f j)) X := by
  rcases (show j = 0 ∨ j = 1 ∨ j = 2 ∨ j = 3 ∨ j = 4 ∨ j = 5 by omega) with rfl | rfl | rfl | rfl | rfl | rfl <;> kernel_rfl
theorem seen_succ (σ : St) (o t : Nat) : seen σ (o + 1) t = (seen σ o t || (decide (t ∈ W σ o) || decide (t ∈ S σ o))) := by
  unfold seen
  rw [List.range_succ, List.any_append]
  simp
theorem seen_out {σ : St} {o t : Nat} (h : ∀ k, k < o → t ∉ W σ k ∧ t ∉ S σ k) : seen σ o t = false := by
  unfold seen
  rw [List.any_eq_false]
  intro k hk
  obtain ⟨h1, h2⟩ := h k (List.mem_range.1 hk)
  simp [h1, h2]
theorem take_mem {q : List Nat} {p : Nat} (hp : p < q.length) {t : Nat} : t ∈ q.take (p + 1) ↔ t ∈ q.take p ∨ t = q.getD p 0 := by
  rw [List.take_add_one, List.mem_append, get_of (d := 0) hp]
  simp
theorem take_not {q : List Nat} (hn : q.Nodup) {p : Nat} (hp : p < q.length) : q.getD p 0 ∉ q.take p := by
  intro h
  obtain ⟨i, hi, e⟩ := List.mem_take_iff_getElem.1 h
  have h2 : q[p]? = some (q.getD p 0) := get_of hp
  rw [List.getElem?_eq_getElem hp] at h2
  have h3 := Option.some.inj h2
  have h4 : i < q.length := by omega
  rw [← h3] at e
  exact List.pairwise_iff_getElem.1 hn i p h4 hp (by omega) e
section
variable {σ : St} {n T : Nat}
theorem Ok.wS (h : Ok n T σ) {o k t : Nat} (ho : o < n) (hk : k < n) (ht : t ∈ W σ o) : t ∉ S σ k := h.apart (h.w ho) (h.s hk) ht (by omega)
theorem Ok.wW (h : Ok n T σ) {o k t : Nat} (ho : o < n) (hk : k < n) (ht : t ∈ W σ o) (hne : o ≠ k) : t ∉ W σ k := h.apart (h.w ho) (h.w hk) ht hne
theorem Ok.sW (h : Ok n T σ) {o k t : Nat} (ho : o < n) (hk : k < n) (ht : t ∈ S σ o) : t ∉ W σ k := h.apart (h.s ho) (h.w hk) ht (by omega)
theorem Ok.sS (h : Ok n T σ) {o k t : Nat} (ho : o < n) (hk : k < n) (ht : t ∈ S σ o) (hne : o ≠ k) : t ∉ S σ k := h.apart (h.s ho) (h.s hk) ht (by omega)
theorem getD_mem {q : List Nat} {p : Nat} (hp : p < q.length) : q.getD p 0 ∈ q := List.mem_of_getElem? (get_of hp)
theorem fW_zero (σ : St) (o t : Nat) : fW σ o 0 t = f0 σ o t := by simp [fW, f0]
theorem fW_step (h : Ok n T σ) {o p : Nat} (ho : o < n) (hp : p < (W σ o).length) : fW σ o p ((W σ o).getD p 0) = 0 ∧ fW σ o (p + 1) ((W σ o).getD p 0) = 1 ∧ ∀ t, t ≠ (W σ o).getD p 0 → fW σ o (p + 1) t = fW σ o p t := by
  have hm := getD_mem hp
  have hs : seen σ o ((W σ o).getD p 0) = false := seen_out (fun k hk => ⟨h.wW ho (by omega) hm (by omega), h.wS ho (by omega) hm⟩)
  have hn := take_not (h.ls.nd _ _ (h.w ho)) hp
  refine ⟨?_, ?_, fun t ht => ?_⟩
  · unfold fW
    rw [hs, decide_eq_false hn]
    rfl
  · unfold fW
    rw [decide_eq_true ((take_mem hp).2 (.inr rfl))]
    simp
  · unfold fW
    have : decide (t ∈ (W σ o).take (p + 1)) = decide (t ∈ (W σ o).take p) := decide_eq_decide.2 ⟨fun h => ((take_mem hp).1 h).resolve_right ht, fun h => (take_mem hp).2 (.inl h)⟩
    rw [this]
theorem fS_zero (σ : St) (o t : Nat) : fS σ o 0 t = fW σ o (W σ o).length t := by simp [fS, fW]
theorem fS_step (h : Ok n T σ) {o p : Nat} (ho : o < n) (hp : p < (S σ o).length) : fS σ o p ((S σ o).getD p 0) = 0 ∧ fS σ o (p + 1) ((S σ o).getD p 0) = 1 ∧ ∀ t, t ≠ (S σ o).getD p 0 → fS σ o (p + 1) t = fS σ o p t := by
  have hm := getD_mem hp
  have hs : seen σ o ((S σ o).getD p 0) = false := seen_out (fun k hk => ⟨h.sW ho (by omega) hm, h.sS ho (by omega) hm (by omega)⟩)
  have hn := take_not (h.ls.nd _ _ (h.s ho)) hp
  have hw := h.sW ho ho hm
  refine ⟨?_, ?_, fun t ht => ?_⟩
  · unfold fS
    rw [hs, decide_eq_false hn, decide_eq_false hw]
    rfl
  · unfold fS
    rw [decide_eq_true ((take_mem hp).2 (.inr rfl))]
    simp
  · unfold fS
    have : decide (t ∈ (S σ o).take (p + 1)) = decide (t ∈ (S σ o).take p) := decide_eq_decide.2 ⟨fun h => ((take_mem hp).1 h).resolve_right ht, fun h => (take_mem hp).2 (.inl h)⟩
    rw [this]
theorem fS_end (σ : St) (o t : Nat) : fS σ o (S σ o).length t = f0 σ (o + 1) t := by
  unfold fS f0
  rw [seen_succ, List.take_of_length_le (Nat.le_refl _), Bool.or_assoc]
theorem seen_where (h : Ok n T σ) (t : Nat) : (seen σ n t = true ∧ (whereK σ (t : Int) != 0) = true) ∨ (seen σ n t = false ∧ whereK σ (t : Int) = 0) := by
  cases hs : seen σ n t
  · refine .inr ⟨rfl, (h.where_no (fun i hi => ?_)).1⟩
    unfold seen at hs
    rw [List.any_eq_false] at hs
    have := hs i (List.mem_range.2 hi)
    simp at this
    have hI : ∀ q : List Nat, (t : Int) ∈ ints q → t ∈ q := fun q hm => by
      obtain ⟨u, e, hu⟩ := ints_mem.1 hm
      have e2 : u = t := by omega
      rw [e2] at hu
      exact hu
    exact ⟨fun hm => this.1 (hI _ hm), fun hm => this.2 (hI _ hm)⟩
  · refine .inl ⟨rfl, ?_⟩
    unfold seen at hs
    rw [List.any_eq_true] at hs
    obtain ⟨k, hk, hm⟩ := hs
    have hk' := List.mem_range.1 hk
    rcases (by simpa using hm : t ∈ W σ k ∨ t ∈ S σ k) with hm | hm
    · rw [(h.where_W hk' (ints_mem.2 ⟨t, rfl, hm⟩)).1]
      rfl
    · rw [(h.where_S hk' (ints_mem.2 ⟨t, rfl, hm⟩)).1]
      rfl
end
theorem _root_.Go.Proofs.Ytimoleijdfoahaa.Bs.RowI.rd_but {w w' : World} {base X : Nat} {v : Value} {xs : List Int} (h : RowI w base v xs) (hb : But [X] w w') (hX : X < base) : Rd w' v xs := (h.but hb (fun x hx => by simp at hx; omega)).rd
section
variable {PL : World → Nat → List Nat → Nat → Nat → St → Prop}
set_option maxRecDepth 100000 in
set_option maxHeartbeats 8000000 in
theorem waits_law (S : Side PL) (sa : Option Addr) (ca : Nat) (xs : List (Int × Int × Int × Int)) (w : World) (ha : Acts w sa xs) :
    Calls Try.prog 4 #[.slice sa xs.length ca] w fun e w' => e = .returned (.bool true) ∧ Below w.heap.size w w' := by
  have HL : ∀ W, _ := fun W => lives_any S W
  have C0 : Calls Try.prog 9 #[.int .i64 3, .int .i64 6] w fun e w' => ∃ B Q, e = .returned (.pointer (some ⟨B, 0, none⟩)) ∧ PL w' B Q 3 6 (new 3 6) ∧ Step [] w Q w' := S.made 3 6 w (by omega) (by omega) (by omega) (by omega)
  have C1 : ∀ X, Calls Try.prog 10 #[.int .i64 3, .int .i64 6] X fun e w' => ∃ M R, e = .returned (.pointer (some ⟨M, 0, none⟩)) ∧ RQ w' M R 3 6 (new 3 6) ∧ Step [] X R w' := fun X => rnew_some (n := 3) (T := 6) (by omega) (by omega) (by omega) (by omega) X
  by_cases hlen : 150 < xs.length
  · have hlen' : (150 : Int) < (xs.length : Int) := by omega
    go_enter Try.func4, Try.ntmps4
    go_wp2_with (first
      | (go_at_call 9; (with_reducible refine C0.mono ?_); rintro e w1 ⟨B, Q1, rfl, h1, s1⟩)
      | (go_at_call 10; (with_reducible refine (C1 _).mono ?_); rintro e w2 ⟨M, R1, rfl, h2, s2⟩)
      | (go_at_call 8; refine (HL _).mono ?_; rintro e w3 ⟨rfl, b3⟩))
    go_ret
    exact ⟨rfl, ((s1.but.trans s2.but).trans (.of_below b3)).to_below⟩
  have hlen' : (xs.length : Int) ≤ 150 := by omega
  go_enter Try.func4, Try.ntmps4
  go_wp2_with (first
    | (go_at_call 9; (with_reducible refine C0.mono ?_); rintro e w1 ⟨B, Q1, rfl, h1, s1⟩)
    | (go_at_call 10; (with_reducible refine (C1 _).mono ?_); rintro e w2 ⟨M, R1, rfl, h2, s2⟩; have hP := Pr.new S h1 s1 h2 s2))
  clear h1 s1 h2 s2 C0 C1
  go_loopw [40, 6, 7, 8, 9, 10, 11, 13, 14, 15, 17, 18, 19, 20, 21, 22, 23] (fun v _ _ _ _ _ _ _ _ _ _ _ _ _ _ _ _ wr => ∃ (j : Nat) (Q R : List Nat) (σ : St), j ≤ xs.length ∧ v = .int .i64 j ∧ Pr PL w wr B Q M R 3 6 σ σ) (fun v _ _ _ _ _ _ _ _ _ _ _ _ _ _ _ _ _ => 150 - (intOf v).toNat)
  case atStart => exact ⟨0, _, _, _, by omega, rfl, hP⟩
  case round =>
    clear hP
    obtain ⟨j, Q, R, σ, hj, rfl, hP⟩ := hrel
    by_cases hlt : j < xs.length
    rotate_left
    · obtain rfl : j = xs.length := by omega
      go_wp2_with (first
        | (go_at_call 8; refine (HL _).mono ?_; rintro e w3 ⟨rfl, b3⟩))
      go_ret
      exact ⟨rfl, ((But.of_below (S := []) hP.s.below).trans (.of_below b3)).to_below⟩
    obtain ⟨b, o, rfl, x0, x1, x2, x3⟩ := ha.below hP.s.below j xs[j] (by simp)
    have hlt' : (j : Int) < (xs.length : Int) := by omega
    generalize xs[j] = x at x0 x1 x2 x3
    obtain ⟨k, ov, cv, tv⟩ := x
    dsimp only at x0 x1 x2 x3
    have hP1 := hP.keep S ((But.refl [] wr).alloc (.cells #[.int .i64 k, .int .i64 ov, .int .i64 cv, .int .i64 tv] 30))
    obtain ⟨y0, y1, y2, y3⟩ := At4.new wr k ov cv tv
    go_wp2_with fail
    generalize wr.alloc (.cells #[.int .i64 k, .int .i64 ov, .int .i64 cv, .int .i64 tv] 30) = W3 at *
    have AC : ∀ X Q R, Pr PL w X B Q M R 3 6 σ σ → _ := fun X Q R h => act_any S (w := X) h k ov cv tv
    generalize actS σ k ov cv tv = σ2 at AC
    clear x0 x1 x2 x3 hP ha
    go_upto_region 9 with (first
      | (go_at_call 11; refine (AC _ _ _ hP1).mono ?_; rintro e w4 ⟨rfl, Q4, R4, p4, s4⟩))
    clear hP1 y0 y1 y2 y3 AC s4
    have p5 := p4.keep S ((But.refl [] w4).alloc (.cells #[.int .i64 0, .int .i64 0, .int .i64 0, .int .i64 0, .int .i64 0, .int .i64 0] 33))
    have hX : w4.heap.size ∉ Q4 := p4.outQ S (Nat.le_refl _)
    have hXw : w.heap.size ≤ w4.heap.size := p4.s.but.size
    have hXR : w4.heap.size ∉ R4 := p4.outR (Nat.le_refl _)
    have hR0 : Row (w4.alloc (.cells #[.int .i64 0, .int .i64 0, .int .i64 0, .int .i64 0, .int .i64 0, .int .i64 0] 33)) w4.heap.size 33 (lst6 (f0 σ2 0)) := ⟨_, heap_alloc_new _ _, fun i v hv => by
      rw [← Array.getElem?_toList]
      exact hv⟩
    have hXl : w4.heap.size < (w4.alloc (.cells #[.int .i64 0, .int .i64 0, .int .i64 0, .int .i64 0, .int .i64 0, .int .i64 0] 33)).heap.size := by simp
    have hok := p5.r.ok
    generalize w4.alloc (.cells #[.int .i64 0, .int .i64 0, .int .i64 0, .int .i64 0, .int .i64 0, .int .i64 0] 33) = V at *
    generalize w4.heap.size = X at *
    clear p4
    have PLV : ∀ Y, But [X] V Y → PL Y B Q4 3 6 σ2 := fun Y hY => S.but p5.a hY (fun x hx hy => hX (by simp at hy; exact hy ▸ hx))
    have PRV : ∀ Y, But [X] V Y → Pr PL w Y B Q4 M R4 3 6 σ2 σ2 := fun Y hY => ⟨PLV Y hY, p5.r.out hY (fun x hx hy => hXR (by simp at hy; exact hy ▸ hx)), p5.d, ⟨p5.s.but.trans_new hY (fun x hx => .inr (by simp at hx; omega)), p5.s.new⟩⟩
    have CO : ∀ Y, But [X] V Y → ∀ o : Nat, o < 3 → Calls Try.prog 13 #[.pointer (some ⟨B, 0, none⟩), .int .i64 o] Y fun e w' => e = .returned (.int .i64 (ow σ2 o)) ∧ Below Y.heap.size Y w' := fun Y hY o ho => by
      have := S.owner (PLV Y hY) hok (o : Int)
      have hin : inO σ2 (o : Int) = true := inN_of (by rw [hok.ol]; exact ho)
      unfold owX at this
      rw [if_pos hin] at this
      exact this
    have CW : ∀ Y, But [X] V Y → ∀ o : Nat, o < 3 → Calls Try.prog 14 #[.pointer (some ⟨B, 0, none⟩), .int .i64 o] Y fun e w' => ∃ v, e = .returned v ∧ RowI w' Y.heap.size v (ints (W σ2 o)) ∧ Below Y.heap.size Y w' := fun Y hY o ho => by
      have := S.waiters (PLV Y hY) hok (o : Int)
      have hin : inO σ2 (o : Int) = true := inN_of (by rw [hok.ol]; exact ho)
      unfold wX at this
      rw [if_pos hin, Int.toNat_natCast] at this
      exact this
    have CS : ∀ Y, But [X] V Y → ∀ o : Nat, o < 3 → Calls Try.prog 15 #[.pointer (some ⟨B, 0, none⟩), .int .i64 o] Y fun e w' => ∃ v, e = .returned v ∧ RowI w' Y.heap.size v (ints (Lo.S σ2 o)) ∧ Below Y.heap.size Y w' := fun Y hY o ho => by
      have := S.sleepers (PLV Y hY) hok (o : Int)
      have hin : inO σ2 (o : Int) = true := inN_of (by rw [hok.ol]; exact ho)
      unfold sX at this
      rw [if_pos hin, Int.toNat_natCast] at this
      exact this
    have CK : ∀ Y, But [X] V Y → ∀ t : Nat, _ := fun Y hY t => S.where_ (PLV Y hY) hok (t : Int)
    clear PLV hX hXR p5 hXw
    go_wp2_with fail
    go_loopw [8, 9, 10, 11, 13, 14, 15, 17, 18, 19] (fun v _ _ _ _ _ _ _ _ _ wy => ∃ o : Nat, o ≤ 3 ∧ v = .int .i64 o ∧ Row wy X 33 (lst6 (f0 σ2 o)) ∧ But [X] V wy) (fun v _ _ _ _ _ _ _ _ _ _ => 3 - (intOf v).toNat)
    case atStart => exact ⟨0, by omega, rfl, hR0, But.refl _ _⟩
    case round =>
      clear hR0
      obtain ⟨o, ho, rfl, hR, hB⟩ := hrel
      by_cases hlt : o < 3
      rotate_left
      · have e3 : o = 3 := by omega
        have hge : ¬ (o : Int) < 3 := by omega
        rw [e3] at hR
        have SW := fun t => seen_where hok t
        have r0 := hR.cell (j := 0) (lst6_get _ (by omega))
        have r1 := hR.cell (j := 1) (lst6_get _ (by omega))
        have r2 := hR.cell (j := 2) (lst6_get _ (by omega))
        have r3 := hR.cell (j := 3) (lst6_get _ (by omega))
        have r4 := hR.cell (j := 4) (lst6_get _ (by omega))
        have r5 := hR.cell (j := 5) (lst6_get _ (by omega))
        have A6 := arr6 (f0 σ2 3)
        have F6 : ∀ t, (f0 σ2 3 t = 1 ∧ (whereK σ2 (t : Int) != 0) = true) ∨ (f0 σ2 3 t = 0 ∧ whereK σ2 (t : Int) = 0) := fun t => by
          unfold f0
          rcases SW t with ⟨h1, h2⟩ | ⟨h1, h2⟩
          · exact .inl ⟨by rw [if_pos h1], h2⟩
          · exact .inr ⟨by rw [if_neg (by simp [h1])], h2⟩
        clear SW hR
        generalize f0 σ2 3 = f at *
        go_wp2_with fail
        generalize hag : Value.agg #[.int .i64 (f 0), .int .i64 (f 1), .int .i64 (f 2), .int .i64 (f 3), .int .i64 (f 4), .int .i64 (f 5)] = ag at *
        clear hag r0 r1 r2 r3 r4 r5
        go_loopw [128, 20, 21, 22, 23] (fun v _ _ _ _ wy => ∃ i : Nat, i ≤ 6 ∧ v = .int .i64 i ∧ But [X] V wy) (fun v _ _ _ _ _ => 6 - (intOf v).toNat)
        case atStart => exact ⟨0, by omega, rfl, hB⟩
        case round =>
          clear hB
          obtain ⟨i, hi, rfl, hB⟩ := hrel
          by_cases hlt6 : i < 6
          · have a6 := A6 wr i hlt6
            have hlt6' : (i : Int) < 6 := by omega
            have K := CK _ hB i
            rcases F6 i with ⟨e1, e2⟩ | ⟨e1, e2⟩
            · rw [e1] at a6
              clear A6 F6 CO CW CS CK
              generalize whereK σ2 (i : Int) = kk at *
              generalize whereO σ2 (i : Int) = oo at *
              go_wp2_with (first | (go_at_call 16; (with_reducible refine K.mono ?_); rintro e w9 ⟨rfl, k9⟩))
              go_roundw
              case rel => exact ⟨i + 1, by omega, by simp, hB.trans (.of_below k9)⟩
              case measure =>
                simp [intOf]
                omega
            · rw [e1] at a6
              rw [e2] at K
              clear A6 F6 CO CW CS CK
              generalize whereO σ2 (i : Int) = oo at *
              go_wp2_with (first | (go_at_call 16; (with_reducible refine K.mono ?_); rintro e w9 ⟨rfl, k9⟩))
              go_roundw
              case rel => exact ⟨i + 1, by omega, by simp, hB.trans (.of_below k9)⟩
              case measure =>
                simp [intOf]
                omega
          · have hge6 : ¬ (i : Int) < 6 := by omega
            have PF := PRV _ hB
            go_wp2_with fail
            go_roundw
            case rel => exact ⟨j + 1, Q4, R4, σ2, by omega, by simp, PF⟩
            case measure =>
              simp [intOf]
              omega
      have hlt3 : (o : Int) < 3 := by omega
      have hbd := hok.own o hlt
      have hmine : ∀ t ∈ W σ2 o, ((t : Int) == ow σ2 o) = false := fun t ht => by simpa using hok.mine o hlt t ht
      have hWk : ∀ t ∈ W σ2 o, whereK σ2 (t : Int) = 1 ∧ whereO σ2 (t : Int) = o := fun t ht => hok.where_W hlt (ints_mem.2 ⟨t, rfl, ht⟩)
      have hSk : ∀ t ∈ Lo.S σ2 o, whereK σ2 (t : Int) = 2 ∧ whereO σ2 (t : Int) = o := fun t ht => hok.where_S hlt (ints_mem.2 ⟨t, rfl, ht⟩)
      have hWl := hok.wlen hlt
      have hSl := hok.slen hlt
      have h5 : ¬ (5 : Int) < ow σ2 o := by omega
      obtain ⟨lw, hlw⟩ : ∃ lw, (W σ2 o).length = lw := ⟨_, rfl⟩
      obtain ⟨l2, hl2⟩ : ∃ l2, (Lo.S σ2 o).length = l2 := ⟨_, rfl⟩
      have hcase : (ow σ2 o < 0 ∧ ¬ (0 : Int) < (lw : Int) ∧ ¬ 0 < lw) ∨ ¬ ow σ2 o < 0 := by
        by_cases hf : ow σ2 o = -1
        · have hl0 : lw = 0 := by rw [← hlw, hok.free o hlt hf]; rfl
          exact .inl ⟨by omega, by omega, by omega⟩
        · exact .inr (by omega)
      have hfs := fun p hp => fW_step hok (p := p) hlt hp
      have hgs := fun p hp => fS_step hok (p := p) hlt hp
      have hWT : ∀ t ∈ W σ2 o, t < 6 := fun t ht => hok.wlt hlt ht
      have hST : ∀ t ∈ Lo.S σ2 o, t < 6 := fun t ht => hok.slt hlt ht
      have CO1 := fun Y hY => CO Y hY o hlt
      have CW1 := fun Y hY => CW Y hY o hlt
      have CS1 := fun Y hY => CS Y hY o hlt
      rw [show lst6 (f0 σ2 o) = lst6 (fW σ2 o 0) from lst6_eq (fun t _ => (fW_zero σ2 o t).symm)] at hR
      generalize ow σ2 o = x at *
      clear CO CW CS
      have hXs : X < wr.heap.size := hR.lt
      rcases hcase with ⟨q1, q2, q3⟩ | q1
      all_goals
        go_wp2_with (first
          | (go_at_call 13; (with_reducible refine (CO1 _ hB).mono ?_); rintro e w5 ⟨rfl, k5⟩; have B5 := hB.trans (.of_below k5))
          | (go_at_call 14; (with_reducible refine (CW1 _ B5).mono ?_); rintro e w6 ⟨v6, rfl, r6, k6⟩; have B6 := B5.trans (.of_below k6); obtain ⟨x6, y6, rfl⟩ := own_shape r6; rw [ints_len, hlw] at r6 ⊢)
          | (go_at_call 15; (with_reducible refine (CS1 _ B6).mono ?_); rintro e w7 ⟨v7, rfl, r7, k7⟩; have B7 := B6.trans (.of_below k7); obtain ⟨x7, y7, rfl⟩ := own_shape r7; rw [ints_len, hl2] at r7 ⊢))
        have hX5 : X < w5.heap.size := by have := k5.size; omega
        have hX6 : X < w6.heap.size := by have := k6.size; omega
        have hR7 : Row w7 X 33 (lst6 (fW σ2 o 0)) := ((hR.put (k5.block _ hXs)).put (k6.block _ hX5)).put (k7.block _ hX6)
        have I6 := r6.below k7
        clear hR CO1 CW1 CS1 k5 k6 k7 r6 B5 B6 hB q1
        obtain ⟨wb, hwb⟩ : ∃ y, y = w7 := ⟨_, rfl⟩
        rw [← hwb] at B7 hR7 I6 r7 ⊢
        clear hwb
        go_loopw [74, 13, 14, 15] (fun v _ _ _ wy => ∃ p : Nat, p ≤ lw ∧ v = .int .i64 p ∧ Row wy X 33 (lst6 (fW σ2 o p)) ∧ But [X] wb wy) (fun v _ _ _ _ => 1024 - (intOf v).toNat)
        case atStart => exact ⟨0, by omega, rfl, hR7, But.refl _ _⟩
        case round =>
          clear hR7
          obtain ⟨p, hp, rfl, hR, hB⟩ := hrel
          by_cases hpl : p < lw
          · first | (exfalso; omega) | skip
            all_goals
              have hplI : (p : Int) < (lw : Int) := by omega
              have hplw : p < (W σ2 o).length := by omega
              obtain ⟨g, rfl, cg⟩ := RowI.at (I6.but hB (fun y hy => by simp at hy; omega)) p _ (ints_get hplw)
              have hum := getD_mem hplw
              obtain ⟨f1, f2, f3⟩ := hfs p hplw
              obtain ⟨K1, K2⟩ := hWk _ hum
              have e1 := hmine _ hum
              have hu6 := hWT _ hum
              have BV : But [X] V wr := B7.trans hB
              have K := CK _ BV ((W σ2 o).getD p 0)
              rw [K1, K2] at K
              have hu6' : (((W σ2 o).getD p 0 : Nat) : Int) < 6 := by omega
              have HS := fun Y (hY : Row Y X 33 (lst6 (fW σ2 o p))) => lst6_set (fW σ2 o p) (fW σ2 o (p + 1)) f2 f3 ▸ hY.set ((W σ2 o).getD p 0) (.int .i64 1)
              have HC := fun Y (hY : Row Y X 33 (lst6 (fW σ2 o p))) => f1 ▸ hY.cell (lst6_get _ hu6)
              clear hfs hgs hWk hSk hmine hWT hST CK PRV f1 f2 f3 K1 K2 hum
              generalize (W σ2 o).getD p 0 = u at *
              go_wp2_with (first
                | (go_at_call 16; (with_reducible refine K.mono ?_); rintro e w9 ⟨rfl, k9⟩; have R9 := hR.put (k9.block _ hR.lt); have c9 := HC _ R9; have f9 := R9.fz u; have R10 := HS _ R9))
              go_roundw
              case rel => exact ⟨p + 1, by omega, by simp, R10, (hB.trans (.of_below k9)).set (p := ⟨X, u, none⟩) (by simp) _⟩
              case measure =>
                simp [intOf]
                omega
          have hpe : p = lw := by omega
          have hge : ¬ (p : Int) < (lw : Int) := by omega
          rw [hpe, show lst6 (fW σ2 o lw) = lst6 (fS σ2 o 0) from lst6_eq (fun t _ => by rw [fS_zero, hlw])] at hR
          have BW : But [X] V wr := B7.trans hB
          have hXb : X < w6.heap.size := hX6
          have I7 : RowI wr w6.heap.size (.slice x7 l2 y7) (ints (Lo.S σ2 o)) := r7.but hB (fun y hy => by simp at hy; omega)
          clear I6 r7 hfs hWk hmine hWT B7 hB
          go_wp2_with fail
          go_loopw [104, 17, 18, 19] (fun v _ _ _ wy => ∃ p : Nat, p ≤ l2 ∧ v = .int .i64 p ∧ Row wy X 33 (lst6 (fS σ2 o p)) ∧ But [X] V wy ∧ RowI wy w6.heap.size (.slice x7 l2 y7) (ints (Lo.S σ2 o))) (fun v _ _ _ _ => 1024 - (intOf v).toNat)
          case atStart => exact ⟨0, by omega, rfl, hR, BW, I7⟩
          case round =>
            clear hR BW I7
            obtain ⟨p, hp, rfl, hR, hB, I7⟩ := hrel
            by_cases hpl : p < l2
            · have hplI : (p : Int) < (l2 : Int) := by omega
              have hplw : p < (Lo.S σ2 o).length := by omega
              obtain ⟨g, rfl, cg⟩ := RowI.at I7 p _ (ints_get hplw)
              have hum := getD_mem hplw
              obtain ⟨f1, f2, f3⟩ := hgs p hplw
              obtain ⟨K1, K2⟩ := hSk _ hum
              have hu6 := hST _ hum
              have K := CK _ hB ((Lo.S σ2 o).getD p 0)
              rw [K1, K2] at K
              have hu6' : (((Lo.S σ2 o).getD p 0 : Nat) : Int) < 6 := by omega
              have HS := fun Y (hY : Row Y X 33 (lst6 (fS σ2 o p))) => lst6_set (fS σ2 o p) (fS σ2 o (p + 1)) f2 f3 ▸ hY.set ((Lo.S σ2 o).getD p 0) (.int .i64 1)
              have HC := fun Y (hY : Row Y X 33 (lst6 (fS σ2 o p))) => f1 ▸ hY.cell (lst6_get _ hu6)
              clear hgs hSk hST CK PRV f1 f2 f3 K1 K2 hum
              generalize (Lo.S σ2 o).getD p 0 = u at *
              go_wp2_with (first
                | (go_at_call 16; (with_reducible refine K.mono ?_); rintro e w9 ⟨rfl, k9⟩; have R9 := hR.put (k9.block _ hR.lt); have c9 := HC _ R9; have f9 := R9.fz u; have R10 := HS _ R9))
              go_roundw
              case rel => exact ⟨p + 1, by omega, by simp, R10, (hB.trans (.of_below k9)).set (p := ⟨X, u, none⟩) (by simp) _, (I7.below k9).but ((But.refl [X] _).set (p := ⟨X, u, none⟩) (by simp) _) (fun y hy => by simp at hy; omega)⟩
              case measure =>
                simp [intOf]
                omega
            have hpe2 : p = l2 := by omega
            have hge2 : ¬ (p : Int) < (l2 : Int) := by omega
            rw [hpe2, ← hl2, show lst6 (fS σ2 o (Lo.S σ2 o).length) = lst6 (f0 σ2 (o + 1)) from lst6_eq (fun t _ => fS_end σ2 o t)] at hR
            go_wp2_with fail
            go_roundw
            case rel => exact ⟨o + 1, by omega, by simp, hR, hB⟩
            case measure =>
              simp [intOf]
              omega
end
end Go.Proofs.Ytimoleijdfoahaa.Lo
